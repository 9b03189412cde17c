import Derived.Test.YtfghdhikjhbbgaeDoorBkMdW
namespace Go.Proofs.YtfghdhikjhbbgaeDoor
open Go.RowKit
set_option maxRecDepth 100000 in
set_option maxHeartbeats 8000000 in
theorem mend_way0 : mendWays.G0 := by
  intro k gs c r n cap w _ w1 w2 gc w3 v3 f0 t0 g0 off0 HCL hn2 hn0 l hlen hn0' _ _ w4 gz wr u2 u12 u13 u14 u15 u16 u17 u73 u74 u75 u76 u77 u78 u79 u80 u81 u82 u83 u84 u85 u86 u87 u88 u89 u90 u91 u92 u93 u94 u95 u96 u97 u98 u99 u100 u101 u102 u103 u104 u105 u106 u107 u108 u109 u110 u111 u112 u113 u114 u115 u116 u117 u118 u119 u120 u121 u122 u123 u124 u125 u126 u127 u128 u129 u130 u131 u132 u133 u134 u135 u136 u137 u138 u139 u140 u141 u142 u143 u144 u145 u146 u147 u148 u149 u150 u151 u152 u153 u154 u155 u156 u157 u158 u159 u160 u161 u162 u163 u164 u165 u166 u167 u168 u169 u170 u171 u172 u173 u174 u175 u176 u177 u178 u179 u180 u181 u182 u183 u184 u185 u186 u187 u188 u189 u190 u191 u192 u193 u194 u195 u196 u197 u198 u199 u200 u201 u202 u203 u204 u205 u206 u207 u208 u209 u210 u211 u212 u213 u214 u215 u216 u217 u218 u219 u220 u221 u222 u223 u224 u225 u226 u227 u228 u229 u230 u231 i g hil hgl hi hi' L f0' frm tt hlt hgn2 _ _ _ _ _ _ _ w5 HFW5 gp hgi hgi' hgi2 hwl hwn hwg hto q f1 t1 HGG htb hgx hgx' hlx hla hla' HPC5 HLG HG1 HMS
  obtain ⟨a0, a1, a2, a3, a4, a5, a6, a7, a8, a9⟩ := gq_cells HFW5.out.ask
  obtain ⟨c0, c1, c2, c3, c4, _⟩ := box5 HPC5.out
  obtain ⟨_, s1⟩ := HCL.out _ HFW5.out.bel g _ HGG.out
  go_upto_region 14 with fail
  go_quiet (fail)
  go_wp2_with fail
  refine (checks_any 0 _).mono ?_
  rintro e w6 ⟨rfl, rfl⟩
  rw [show cks 0 = false from rfl]
  go_upto_region 20 with fail
  go_quiet (fail)
  go_wp2_with fail
  refine (HLG.out _ (below_drewN HFW5.out.bel _)).mono ?_
  rintro e w7 ⟨rfl, hb7⟩
  replace hb7 : Below w5.heap.size w5 w7 := (below_drewN (Below.refl _ _) _).trans hb7
  have HFW7 : Hid (MW k (some ⟨g0, off0, none⟩) n cap c r l (.slice (some ⟨L, 0, none⟩) l.length gc) w w1.heap.size gz w7) := HFW5.out.below hb7
  have HPC7 : Hid (w7.heap[gp]? = some (.cells #[.int .i64 0, .int .i64 frm, .int .i64 tt, .int .i64 0, .int .i64 0] 38)) := (hb7.block _ (Array.getElem?_eq_some_iff.mp HPC5.out).1).trans HPC5.out
  clear a0 a1 a2 a3 a4 a5 a6 a7 a8 a9 c0 c1 c2 c3 c4 s1 hb7 HFW5 HPC5 HLG
  obtain ⟨a0, a1, a2, a3, a4, a5, a6, a7, a8, a9⟩ := gq_cells HFW7.out.ask
  obtain ⟨c0, c1, c2, c3, c4, _⟩ := box5 HPC7.out
  obtain ⟨_, s1⟩ := HCL.out _ HFW7.out.bel g _ HGG.out
  obtain ⟨s2, _⟩ := HCL.out _ HFW7.out.bel (g + 1) _ HG1.out
  go_wp2
  go_roundw
  case rel => exact ⟨i + 1, g + 1, f1, by omega, by omega, by go_num, by go_num, rfl, HMS.out, HFW7.out⟩
  case measure => simp [intOf]; omega
end Go.Proofs.YtfghdhikjhbbgaeDoor

namespace Go.Proofs.YtfghdhikjhbbgaeDoor
open Go.RowKit
set_option maxRecDepth 100000 in
set_option maxHeartbeats 8000000 in
theorem mend_way1 : mendWays.G1 := by
  intro k gs c r n cap w _ w1 w2 gc w3 v3 f0 t0 g0 off0 HCL hn2 hn0 l hlen hn0' _ _ w4 gz wr u2 u12 u13 u14 u15 u16 u17 u73 u74 u75 u76 u77 u78 u79 u80 u81 u82 u83 u84 u85 u86 u87 u88 u89 u90 u91 u92 u93 u94 u95 u96 u97 u98 u99 u100 u101 u102 u103 u104 u105 u106 u107 u108 u109 u110 u111 u112 u113 u114 u115 u116 u117 u118 u119 u120 u121 u122 u123 u124 u125 u126 u127 u128 u129 u130 u131 u132 u133 u134 u135 u136 u137 u138 u139 u140 u141 u142 u143 u144 u145 u146 u147 u148 u149 u150 u151 u152 u153 u154 u155 u156 u157 u158 u159 u160 u161 u162 u163 u164 u165 u166 u167 u168 u169 u170 u171 u172 u173 u174 u175 u176 u177 u178 u179 u180 u181 u182 u183 u184 u185 u186 u187 u188 u189 u190 u191 u192 u193 u194 u195 u196 u197 u198 u199 u200 u201 u202 u203 u204 u205 u206 u207 u208 u209 u210 u211 u212 u213 u214 u215 u216 u217 u218 u219 u220 u221 u222 u223 u224 u225 u226 u227 u228 u229 u230 u231 i g hil hgl hi hi' L f0' t0' frm tt hlt HGG hgn2 htb _ _ _ _ _ _ _ w5 HFW5 gp hgi hgi' hgi2 hwl hwn hwg hto hgx hlx hla hla' HPC5 HLG hge hge' hte hte' hle hle' HMS
  obtain ⟨a0, a1, a2, a3, a4, a5, a6, a7, a8, a9⟩ := gq_cells HFW5.out.ask
  obtain ⟨c0, c1, c2, c3, c4, _⟩ := box5 HPC5.out
  obtain ⟨_, s1⟩ := HCL.out _ HFW5.out.bel g _ HGG.out
  go_upto_region 14 with fail
  go_quiet (fail)
  go_wp2_with fail
  refine (checks_any 0 _).mono ?_
  rintro e w6 ⟨rfl, rfl⟩
  rw [show cks 0 = false from rfl]
  go_upto_region 20 with fail
  go_quiet (fail)
  go_wp2_with fail
  refine (HLG.out _ (below_drewN HFW5.out.bel _)).mono ?_
  rintro e w7 ⟨rfl, hb7⟩
  replace hb7 : Below w5.heap.size w5 w7 := (below_drewN (Below.refl _ _) _).trans hb7
  have HFW7 : Hid (MW k (some ⟨g0, off0, none⟩) n cap c r l (.slice (some ⟨L, 0, none⟩) l.length gc) w w1.heap.size gz w7) := HFW5.out.below hb7
  have HPC7 : Hid (w7.heap[gp]? = some (.cells #[.int .i64 0, .int .i64 frm, .int .i64 tt, .int .i64 0, .int .i64 0] 38)) := (hb7.block _ (Array.getElem?_eq_some_iff.mp HPC5.out).1).trans HPC5.out
  clear a0 a1 a2 a3 a4 a5 a6 a7 a8 a9 c0 c1 c2 c3 c4 s1 hb7 HFW5 HPC5 HLG
  obtain ⟨a0, a1, a2, a3, a4, a5, a6, a7, a8, a9⟩ := gq_cells HFW7.out.ask
  obtain ⟨c0, c1, c2, c3, c4, _⟩ := box5 HPC7.out
  obtain ⟨_, s1⟩ := HCL.out _ HFW7.out.bel g _ HGG.out
  go_wp2
  go_roundw
  case rel => exact ⟨i + 1, g, tt, by omega, by omega, by go_num, by go_num, rfl, HMS.out, HFW7.out⟩
  case measure => simp [intOf]; omega
end Go.Proofs.YtfghdhikjhbbgaeDoor

namespace Go.Proofs.YtfghdhikjhbbgaeDoor
open Go.RowKit
set_option maxRecDepth 100000 in
set_option maxHeartbeats 8000000 in
theorem mend_way2 : mendWays.G2 := by
  intro k gs c r n cap w _ w1 w2 gc w3 v3 f0 t0 g0 off0 HCL hn2 hn0 l hlen hn0' _ _ w4 gz wr u2 u12 u13 u14 u15 u16 u17 u73 u74 u75 u76 u77 u78 u79 u80 u81 u82 u83 u84 u85 u86 u87 u88 u89 u90 u91 u92 u93 u94 u95 u96 u97 u98 u99 u100 u101 u102 u103 u104 u105 u106 u107 u108 u109 u110 u111 u112 u113 u114 u115 u116 u117 u118 u119 u120 u121 u122 u123 u124 u125 u126 u127 u128 u129 u130 u131 u132 u133 u134 u135 u136 u137 u138 u139 u140 u141 u142 u143 u144 u145 u146 u147 u148 u149 u150 u151 u152 u153 u154 u155 u156 u157 u158 u159 u160 u161 u162 u163 u164 u165 u166 u167 u168 u169 u170 u171 u172 u173 u174 u175 u176 u177 u178 u179 u180 u181 u182 u183 u184 u185 u186 u187 u188 u189 u190 u191 u192 u193 u194 u195 u196 u197 u198 u199 u200 u201 u202 u203 u204 u205 u206 u207 u208 u209 u210 u211 u212 u213 u214 u215 u216 u217 u218 u219 u220 u221 u222 u223 u224 u225 u226 u227 u228 u229 u230 u231 i g hil hgl hi hi' L f0' t0' frm tt hlt HGG hgn2 htb _ _ _ _ _ _ _ w5 HFW5 gp hgi hgi' hgi2 hwl hwn hwg hto q hlx hla hla' HPC5 HLG hge HMS hte hte' hle hle' hwt hc1 HCE
  obtain ⟨a0, a1, a2, a3, a4, a5, a6, a7, a8, a9⟩ := gq_cells HFW5.out.ask
  obtain ⟨c0, c1, c2, c3, c4, _⟩ := box5 HPC5.out
  obtain ⟨_, s1⟩ := HCL.out _ HFW5.out.bel g _ HGG.out
  go_upto_region 14 with fail
  go_quiet (fail)
  go_wp2_with fail
  refine (checks_any 0 _).mono ?_
  rintro e w6 ⟨rfl, rfl⟩
  rw [show cks 0 = false from rfl]
  go_upto_region 20 with fail
  go_quiet (fail)
  go_wp2_with fail
  refine (HLG.out _ (below_drewN HFW5.out.bel _)).mono ?_
  rintro e w7 ⟨rfl, hb7⟩
  replace hb7 : Below w5.heap.size w5 w7 := (below_drewN (Below.refl _ _) _).trans hb7
  have HFW7 : Hid (MW k (some ⟨g0, off0, none⟩) n cap c r l (.slice (some ⟨L, 0, none⟩) l.length gc) w w1.heap.size gz w7) := HFW5.out.below hb7
  have HPC7 : Hid (w7.heap[gp]? = some (.cells #[.int .i64 0, .int .i64 frm, .int .i64 tt, .int .i64 0, .int .i64 0] 38)) := (hb7.block _ (Array.getElem?_eq_some_iff.mp HPC5.out).1).trans HPC5.out
  clear a0 a1 a2 a3 a4 a5 a6 a7 a8 a9 c0 c1 c2 c3 c4 s1 hb7 HFW5 HPC5 HLG
  obtain ⟨a0, a1, a2, a3, a4, a5, a6, a7, a8, a9⟩ := gq_cells HFW7.out.ask
  obtain ⟨c0, c1, c2, c3, c4, _⟩ := box5 HPC7.out
  obtain ⟨_, s1⟩ := HCL.out _ HFW7.out.bel g _ HGG.out
  go_wp2
  go_roundw
  case rel => exact ⟨i + 1, g, tt, by omega, by omega, by go_num, by go_num, rfl, HMS.out, HFW7.out⟩
  case measure => simp [intOf]; omega
end Go.Proofs.YtfghdhikjhbbgaeDoor

namespace Go.Proofs.YtfghdhikjhbbgaeDoor
open Go.RowKit
set_option maxRecDepth 100000 in
set_option maxHeartbeats 8000000 in
theorem mend_way3 : mendWays.G3 := by
  intro k gs c r n cap w _ w1 w2 gc w3 v3 f0 t0 g0 off0 HCL hn2 hn0 l hlen hn0' _ _ w4 gz wr u2 u12 u13 u14 u15 u16 u17 u73 u74 u75 u76 u77 u78 u79 u80 u81 u82 u83 u84 u85 u86 u87 u88 u89 u90 u91 u92 u93 u94 u95 u96 u97 u98 u99 u100 u101 u102 u103 u104 u105 u106 u107 u108 u109 u110 u111 u112 u113 u114 u115 u116 u117 u118 u119 u120 u121 u122 u123 u124 u125 u126 u127 u128 u129 u130 u131 u132 u133 u134 u135 u136 u137 u138 u139 u140 u141 u142 u143 u144 u145 u146 u147 u148 u149 u150 u151 u152 u153 u154 u155 u156 u157 u158 u159 u160 u161 u162 u163 u164 u165 u166 u167 u168 u169 u170 u171 u172 u173 u174 u175 u176 u177 u178 u179 u180 u181 u182 u183 u184 u185 u186 u187 u188 u189 u190 u191 u192 u193 u194 u195 u196 u197 u198 u199 u200 u201 u202 u203 u204 u205 u206 u207 u208 u209 u210 u211 u212 u213 u214 u215 u216 u217 u218 u219 u220 u221 u222 u223 u224 u225 u226 u227 u228 u229 u230 u231 i g hil hgl hi hi' L f0' t0' frm tt hlt HGG hgn2 htb _ _ _ _ _ _ _ w5 HFW5 gp hgi hgi' hgi2 hwl hwn hwg hto hlx hla hla' HPC5 hge HMS hte hte' hle hle' hwt hcut hc1 HLG
  obtain ⟨a0, a1, a2, a3, a4, a5, a6, a7, a8, a9⟩ := gq_cells HFW5.out.ask
  obtain ⟨c0, c1, c2, c3, c4, _⟩ := box5 HPC5.out
  obtain ⟨_, s1⟩ := HCL.out _ HFW5.out.bel g _ HGG.out
  go_upto_region 14 with fail
  go_quiet (fail)
  go_wp2_with fail
  refine (checks_any 0 _).mono ?_
  rintro e w6 ⟨rfl, rfl⟩
  rw [show cks 0 = false from rfl]
  go_upto_region 20 with fail
  go_quiet (fail)
  go_wp2_with fail
  refine (HLG.out _ (below_drewN HFW5.out.bel _)).mono ?_
  rintro e w7 ⟨rfl, hb7⟩
  replace hb7 : Below w5.heap.size w5 w7 := (below_drewN (Below.refl _ _) _).trans hb7
  have HFW7 : Hid (MW k (some ⟨g0, off0, none⟩) n cap c r l (.slice (some ⟨L, 0, none⟩) l.length gc) w w1.heap.size gz w7) := HFW5.out.below hb7
  have HPC7 : Hid (w7.heap[gp]? = some (.cells #[.int .i64 0, .int .i64 frm, .int .i64 tt, .int .i64 0, .int .i64 0] 38)) := (hb7.block _ (Array.getElem?_eq_some_iff.mp HPC5.out).1).trans HPC5.out
  clear a0 a1 a2 a3 a4 a5 a6 a7 a8 a9 c0 c1 c2 c3 c4 s1 hb7 HFW5 HPC5 HLG
  obtain ⟨a0, a1, a2, a3, a4, a5, a6, a7, a8, a9⟩ := gq_cells HFW7.out.ask
  obtain ⟨c0, c1, c2, c3, c4, _⟩ := box5 HPC7.out
  obtain ⟨_, s1⟩ := HCL.out _ HFW7.out.bel g _ HGG.out
  go_wp2
  go_roundw
  case rel => exact ⟨i + 1, g, tt, by omega, by omega, by go_num, by go_num, rfl, HMS.out, HFW7.out⟩
  case measure => simp [intOf]; omega
end Go.Proofs.YtfghdhikjhbbgaeDoor

namespace Go.Proofs.YtfghdhikjhbbgaeDoor
open Go.RowKit
set_option maxRecDepth 100000 in
set_option maxHeartbeats 8000000 in
theorem mend_way4 : mendWays.G4 := by
  intro k gs n cap w _ w1 w2 gc w3 v3 f0 t0 g0 off0 HCL hn2 hn0 l hlen hn0' _ _ w4 gz wr u2 u12 u13 u14 u15 u16 u17 u73 u74 u75 u76 u77 u78 u79 u80 u81 u82 u83 u84 u85 u86 u87 u88 u89 u90 u91 u92 u93 u94 u95 u96 u97 u98 u99 u100 u101 u102 u103 u104 u105 u106 u107 u108 u109 u110 u111 u112 u113 u114 u115 u116 u117 u118 u119 u120 u121 u122 u123 u124 u125 u126 u127 u128 u129 u130 u131 u132 u133 u134 u135 u136 u137 u138 u139 u140 u141 u142 u143 u144 u145 u146 u147 u148 u149 u150 u151 u152 u153 u154 u155 u156 u157 u158 u159 u160 u161 u162 u163 u164 u165 u166 u167 u168 u169 u170 u171 u172 u173 u174 u175 u176 u177 u178 u179 u180 u181 u182 u183 u184 u185 u186 u187 u188 u189 u190 u191 u192 u193 u194 u195 u196 u197 u198 u199 u200 u201 u202 u203 u204 u205 u206 u207 u208 u209 u210 u211 u212 u213 u214 u215 u216 u217 u218 u219 u220 u221 u222 u223 u224 u225 u226 u227 u228 u229 u230 u231 i g hil hgl hi hi' L f0' ty frm tt ck rp hlt hgn2 _ _ _ w5 gp HPC5 hgi hgi' hgi2 hwl hwn hwg hto q HLG HGG htb _ _ _ _ HFW5 hla hge'' hck hx1 HMS
  obtain ⟨a0, a1, a2, a3, a4, a5, a6, a7, a8, a9⟩ := gq_cells HFW5.out.ask
  obtain ⟨c0, c1, c2, c3, c4, _⟩ := box5 HPC5.out
  obtain ⟨_, s1⟩ := HCL.out _ HFW5.out.bel g _ HGG.out
  go_upto_region 14 with fail
  go_quiet (fail)
  go_wp2_with fail
  refine (checks_any ty _).mono ?_
  rintro e w6 ⟨rfl, rfl⟩
  rw [show cks ty = true from hck]
  go_upto_region 20 with fail
  go_quiet (fail)
  go_wp2_with fail
  refine (HLG.out _ (below_drewN HFW5.out.bel _)).mono ?_
  rintro e w7 ⟨rfl, hb7⟩
  replace hb7 : Below w5.heap.size w5 w7 := (below_drewN (Below.refl _ _) _).trans hb7
  have HFW7 : Hid (MW k (some ⟨g0, off0, none⟩) n cap ck rp l (.slice (some ⟨L, 0, none⟩) l.length gc) w w1.heap.size gz w7) := HFW5.out.below hb7
  have HPC7 : Hid (w7.heap[gp]? = some (.cells #[.int .i64 ty, .int .i64 frm, .int .i64 tt, .int .i64 ck, .int .i64 rp] 38)) := (hb7.block _ (Array.getElem?_eq_some_iff.mp HPC5.out).1).trans HPC5.out
  clear a0 a1 a2 a3 a4 a5 a6 a7 a8 a9 c0 c1 c2 c3 c4 s1 hb7 HFW5 HPC5 HLG
  obtain ⟨a0, a1, a2, a3, a4, a5, a6, a7, a8, a9⟩ := gq_cells HFW7.out.ask
  obtain ⟨c0, c1, c2, c3, c4, _⟩ := box5 HPC7.out
  obtain ⟨_, s1⟩ := HCL.out _ HFW7.out.bel g _ HGG.out
  go_wp2
  go_roundw
  case rel => exact ⟨i + 1, g + 1, tt, by omega, by omega, by go_num, by go_num, rfl, HMS.out, HFW7.out⟩
  case measure => simp [intOf]; omega
end Go.Proofs.YtfghdhikjhbbgaeDoor

namespace Go.Proofs.YtfghdhikjhbbgaeDoor
open Go.RowKit
set_option maxRecDepth 100000 in
set_option maxHeartbeats 8000000 in
theorem mend_way5 : mendWays.G5 := by
  intro k gs c r a n cap w HT HS HNN hlen _ w1 w2 ga gc _ _ _ _ w3 v3 HB3 HX3 HO3 hnil er HE
  go_wp2
  go_ret
  exact ⟨by simp, HB3.out⟩
end Go.Proofs.YtfghdhikjhbbgaeDoor

namespace Go.Proofs.YtfghdhikjhbbgaeDoor
open Go.RowKit
theorem mend_walk : MendSays := mendWays.pf ⟨mend_way0⟩ ⟨mend_way1⟩ ⟨mend_way2⟩ ⟨mend_way3⟩ ⟨mend_way4⟩ ⟨mend_way5⟩
end Go.Proofs.YtfghdhikjhbbgaeDoor
