import Derived.Test.YtfghdhikjhbbgadDoorBkFlW
namespace Go.Proofs.YtfghdhikjhbbgadDoor
open Go.RowKit
set_option maxRecDepth 100000 in
set_option maxHeartbeats 8000000 in
theorem fill_way4 : fillWays.G4 := by
  intro k b w _ w1 w2 gc w3 ok hb0 hb1 l hlen _ _ w4 gz wr u2 u12 u13 u14 u15 u16 u17 u54 u55 u56 u57 u58 u59 u60 u61 u62 u63 u64 u65 u66 u67 u68 u69 u70 u71 u72 u73 u74 u75 u76 u77 u78 u79 u80 u81 u82 u83 u84 u85 u86 u87 u88 u89 u90 u91 u92 u93 u94 u95 u96 u97 u98 u99 u100 u101 u102 u103 u104 u105 u106 u107 u108 u109 u110 u111 u112 u113 u114 u115 u116 u117 u118 u119 u120 u121 u122 u123 u124 u125 u126 u127 u128 u129 u130 u131 u132 u133 u134 u135 u136 u137 u138 u139 u140 u141 u142 u143 u144 u145 u146 u147 u148 u149 u150 u151 u152 u153 u154 u155 u156 u157 u158 u159 u160 u161 u162 u163 u164 u165 u166 u167 u168 u169 u170 u171 u172 u173 u174 u175 u176 u177 u178 u179 u180 u181 u182 u183 u184 u185 u186 u187 u188 u189 u190 u191 u192 u193 u194 u195 u196 u197 u198 u199 u200 u201 u202 u203 u204 u205 u206 u207 u208 u209 u210 u211 u212 u213 u214 u215 u216 u217 u218 u219 u220 u221 u222 u223 u224 u225 u226 u227 u228 u229 u230 u231 u232 u233 u234 u235 u236 u237 u238 u239 u240 u241 u242 u243 u244 u245 u246 u247 u248 u249 u250 u251 u252 u253 u254 u255 u256 u257 u258 u259 u260 u261 u262 u263 u264 u265 u266 u267 u268 u269 u270 u271 u272 u273 u274 u275 u276 u277 u278 u279 u280 u281 u282 u283 u284 u285 u286 u287 u288 u289 u290 i hil hi hi' L frm tt ck ha1 _ _ _ w5 HFW5 gp hle hsz hwe hwr HKR h1 h2 h4 hp0 hp1 hwp hn0 hn1 hnp hwn _ _ _ _ HPC5 HFS hnr hne hne' hez HLG
  obtain ⟨a0, a1, a2, a3, a4, a5, a6, a7⟩ := ak_cells HFW5.out.ask
  obtain ⟨c0, c1, c2, c3, c4, _⟩ := box5 HPC5.out
  go_wp2_with fail
  refine (checks_any 1 _).mono ?_
  rintro e w6 ⟨rfl, rfl⟩
  rw [show cks 1 = true from rfl]
  go_wp2_with fail
  refine (HLG.out _ HFW5.out.bel).mono ?_
  rintro e w7 ⟨rfl, hb7⟩
  have HFW7 : Hid (FW k b l (.slice (some ⟨L, 0, none⟩) l.length gc) w w1.heap.size gz w7) := HFW5.out.below hb7
  have HPC7 : Hid (w7.heap[gp]? = some (.cells #[.int .i64 1, .int .i64 frm, .int .i64 tt, .int .i64 ck, .int .i64 0] 46)) := (hb7.block _ (Array.getElem?_eq_some_iff.mp HPC5.out).1).trans HPC5.out
  clear a0 a1 a2 a3 a4 a5 a6 a7 c0 c1 c2 c3 c4 hb7 HFW5 HPC5 HLG
  obtain ⟨a0, a1, a2, a3, a4, a5, a6, a7⟩ := ak_cells HFW7.out.ask
  obtain ⟨c0, c1, c2, c3, c4, _⟩ := box5 HPC7.out
  go_wp2
  go_roundw
  case rel => exact ⟨i + 1, _, _, _, by omega, by go_num, rfl, rfl, rfl, HFS.out, HFW7.out⟩
  case measure => simp [intOf]; omega
end Go.Proofs.YtfghdhikjhbbgadDoor

namespace Go.Proofs.YtfghdhikjhbbgadDoor
open Go.RowKit
set_option maxRecDepth 100000 in
set_option maxHeartbeats 8000000 in
theorem fill_way5 : fillWays.G5 := by
  intro k b w _ w1 w2 gc w3 ok hb0 hb1 l hlen _ _ w4 gz wr u2 u12 u13 u14 u15 u16 u17 u54 u55 u56 u57 u58 u59 u60 u61 u62 u63 u64 u65 u66 u67 u68 u69 u70 u71 u72 u73 u74 u75 u76 u77 u78 u79 u80 u81 u82 u83 u84 u85 u86 u87 u88 u89 u90 u91 u92 u93 u94 u95 u96 u97 u98 u99 u100 u101 u102 u103 u104 u105 u106 u107 u108 u109 u110 u111 u112 u113 u114 u115 u116 u117 u118 u119 u120 u121 u122 u123 u124 u125 u126 u127 u128 u129 u130 u131 u132 u133 u134 u135 u136 u137 u138 u139 u140 u141 u142 u143 u144 u145 u146 u147 u148 u149 u150 u151 u152 u153 u154 u155 u156 u157 u158 u159 u160 u161 u162 u163 u164 u165 u166 u167 u168 u169 u170 u171 u172 u173 u174 u175 u176 u177 u178 u179 u180 u181 u182 u183 u184 u185 u186 u187 u188 u189 u190 u191 u192 u193 u194 u195 u196 u197 u198 u199 u200 u201 u202 u203 u204 u205 u206 u207 u208 u209 u210 u211 u212 u213 u214 u215 u216 u217 u218 u219 u220 u221 u222 u223 u224 u225 u226 u227 u228 u229 u230 u231 u232 u233 u234 u235 u236 u237 u238 u239 u240 u241 u242 u243 u244 u245 u246 u247 u248 u249 u250 u251 u252 u253 u254 u255 u256 u257 u258 u259 u260 u261 u262 u263 u264 u265 u266 u267 u268 u269 u270 u271 u272 u273 u274 u275 u276 u277 u278 u279 u280 u281 u282 u283 u284 u285 u286 u287 u288 u289 u290 i pl hil hi hi' L hp0 nx' frm ha1 hp1 _ _ _ w5 HFW5 gp hwp hwe hwr q HKR h1 h6 hn0 hn1 _ _ _ _ hnp hwn hev hpe hle hsz h2 HPC5 HLG HFS hnr hne hne'
  obtain ⟨a0, a1, a2, a3, a4, a5, a6, a7⟩ := ak_cells HFW5.out.ask
  obtain ⟨c0, c1, c2, c3, c4, _⟩ := box5 HPC5.out
  go_wp2_with fail
  refine (checks_any 0 _).mono ?_
  rintro e w6 ⟨rfl, rfl⟩
  rw [show cks 0 = false from rfl]
  go_wp2_with fail
  refine (HLG.out _ HFW5.out.bel).mono ?_
  rintro e w7 ⟨rfl, hb7⟩
  have HFW7 : Hid (FW k b l (.slice (some ⟨L, 0, none⟩) l.length gc) w w1.heap.size gz w7) := HFW5.out.below hb7
  have HPC7 : Hid (w7.heap[gp]? = some (.cells #[.int .i64 0, .int .i64 frm, .int .i64 (k.red - 1), .int .i64 0, .int .i64 0] 46)) := (hb7.block _ (Array.getElem?_eq_some_iff.mp HPC5.out).1).trans HPC5.out
  clear a0 a1 a2 a3 a4 a5 a6 a7 c0 c1 c2 c3 c4 hb7 HFW5 HPC5 HLG
  obtain ⟨a0, a1, a2, a3, a4, a5, a6, a7⟩ := ak_cells HFW7.out.ask
  obtain ⟨c0, c1, c2, c3, c4, _⟩ := box5 HPC7.out
  go_wp2
  go_roundw
  case rel => exact ⟨i + 1, _, _, _, by omega, by go_num, rfl, rfl, rfl, HFS.out, HFW7.out⟩
  case measure => simp [intOf]; omega
end Go.Proofs.YtfghdhikjhbbgadDoor

namespace Go.Proofs.YtfghdhikjhbbgadDoor
open Go.RowKit
set_option maxRecDepth 100000 in
set_option maxHeartbeats 8000000 in
theorem fill_way6 : fillWays.G6 := by
  intro k b w _ w1 w2 gc w3 ok hb0 hb1 l hlen _ _ w4 gz wr u2 u12 u13 u14 u15 u16 u17 u54 u55 u56 u57 u58 u59 u60 u61 u62 u63 u64 u65 u66 u67 u68 u69 u70 u71 u72 u73 u74 u75 u76 u77 u78 u79 u80 u81 u82 u83 u84 u85 u86 u87 u88 u89 u90 u91 u92 u93 u94 u95 u96 u97 u98 u99 u100 u101 u102 u103 u104 u105 u106 u107 u108 u109 u110 u111 u112 u113 u114 u115 u116 u117 u118 u119 u120 u121 u122 u123 u124 u125 u126 u127 u128 u129 u130 u131 u132 u133 u134 u135 u136 u137 u138 u139 u140 u141 u142 u143 u144 u145 u146 u147 u148 u149 u150 u151 u152 u153 u154 u155 u156 u157 u158 u159 u160 u161 u162 u163 u164 u165 u166 u167 u168 u169 u170 u171 u172 u173 u174 u175 u176 u177 u178 u179 u180 u181 u182 u183 u184 u185 u186 u187 u188 u189 u190 u191 u192 u193 u194 u195 u196 u197 u198 u199 u200 u201 u202 u203 u204 u205 u206 u207 u208 u209 u210 u211 u212 u213 u214 u215 u216 u217 u218 u219 u220 u221 u222 u223 u224 u225 u226 u227 u228 u229 u230 u231 u232 u233 u234 u235 u236 u237 u238 u239 u240 u241 u242 u243 u244 u245 u246 u247 u248 u249 u250 u251 u252 u253 u254 u255 u256 u257 u258 u259 u260 u261 u262 u263 u264 u265 u266 u267 u268 u269 u270 u271 u272 u273 u274 u275 u276 u277 u278 u279 u280 u281 u282 u283 u284 u285 u286 u287 u288 u289 u290 i pl hil hi hi' L hp0 nx' frm tt ha1 hp1 _ _ _ w5 HFW5 gp hle hsz hwp hwe hwr HKR h1 h2 HPC5 h6 hn0 hn1 _ _ _ _ hnp hwn HFS hnr hne hne' hev hpe hr1 HLG
  obtain ⟨a0, a1, a2, a3, a4, a5, a6, a7⟩ := ak_cells HFW5.out.ask
  obtain ⟨c0, c1, c2, c3, c4, _⟩ := box5 HPC5.out
  go_wp2_with fail
  refine (checks_any 0 _).mono ?_
  rintro e w6 ⟨rfl, rfl⟩
  rw [show cks 0 = false from rfl]
  go_wp2_with fail
  refine (HLG.out _ HFW5.out.bel).mono ?_
  rintro e w7 ⟨rfl, hb7⟩
  have HFW7 : Hid (FW k b l (.slice (some ⟨L, 0, none⟩) l.length gc) w w1.heap.size gz w7) := HFW5.out.below hb7
  have HPC7 : Hid (w7.heap[gp]? = some (.cells #[.int .i64 0, .int .i64 frm, .int .i64 tt, .int .i64 0, .int .i64 0] 46)) := (hb7.block _ (Array.getElem?_eq_some_iff.mp HPC5.out).1).trans HPC5.out
  clear a0 a1 a2 a3 a4 a5 a6 a7 c0 c1 c2 c3 c4 hb7 HFW5 HPC5 HLG
  obtain ⟨a0, a1, a2, a3, a4, a5, a6, a7⟩ := ak_cells HFW7.out.ask
  obtain ⟨c0, c1, c2, c3, c4, _⟩ := box5 HPC7.out
  go_wp2
  go_roundw
  case rel => exact ⟨i + 1, _, _, _, by omega, by go_num, rfl, rfl, rfl, HFS.out, HFW7.out⟩
  case measure => simp [intOf]; omega
end Go.Proofs.YtfghdhikjhbbgadDoor

namespace Go.Proofs.YtfghdhikjhbbgadDoor
open Go.RowKit
set_option maxRecDepth 100000 in
set_option maxHeartbeats 8000000 in
theorem fill_way7 : fillWays.G7 := by
  intro k b w _ w1 w2 gc w3 ok hb0 hb1 l hlen _ _ w4 gz wr u2 u12 u13 u14 u15 u16 u17 u54 u55 u56 u57 u58 u59 u60 u61 u62 u63 u64 u65 u66 u67 u68 u69 u70 u71 u72 u73 u74 u75 u76 u77 u78 u79 u80 u81 u82 u83 u84 u85 u86 u87 u88 u89 u90 u91 u92 u93 u94 u95 u96 u97 u98 u99 u100 u101 u102 u103 u104 u105 u106 u107 u108 u109 u110 u111 u112 u113 u114 u115 u116 u117 u118 u119 u120 u121 u122 u123 u124 u125 u126 u127 u128 u129 u130 u131 u132 u133 u134 u135 u136 u137 u138 u139 u140 u141 u142 u143 u144 u145 u146 u147 u148 u149 u150 u151 u152 u153 u154 u155 u156 u157 u158 u159 u160 u161 u162 u163 u164 u165 u166 u167 u168 u169 u170 u171 u172 u173 u174 u175 u176 u177 u178 u179 u180 u181 u182 u183 u184 u185 u186 u187 u188 u189 u190 u191 u192 u193 u194 u195 u196 u197 u198 u199 u200 u201 u202 u203 u204 u205 u206 u207 u208 u209 u210 u211 u212 u213 u214 u215 u216 u217 u218 u219 u220 u221 u222 u223 u224 u225 u226 u227 u228 u229 u230 u231 u232 u233 u234 u235 u236 u237 u238 u239 u240 u241 u242 u243 u244 u245 u246 u247 u248 u249 u250 u251 u252 u253 u254 u255 u256 u257 u258 u259 u260 u261 u262 u263 u264 u265 u266 u267 u268 u269 u270 u271 u272 u273 u274 u275 u276 u277 u278 u279 u280 u281 u282 u283 u284 u285 u286 u287 u288 u289 u290 i pl hil hi hi' L hp0 nx' frm ha1 hp1 _ _ _ w5 HFW5 gp hwp hwe hwr q HKR h1 h6 hn0 hn1 _ _ _ _ hnp hwn hev hez' hle hsz h2 HPC5 HLG HFS hnr hne hne'
  obtain ⟨a0, a1, a2, a3, a4, a5, a6, a7⟩ := ak_cells HFW5.out.ask
  obtain ⟨c0, c1, c2, c3, c4, _⟩ := box5 HPC5.out
  go_wp2_with fail
  refine (checks_any 0 _).mono ?_
  rintro e w6 ⟨rfl, rfl⟩
  rw [show cks 0 = false from rfl]
  go_wp2_with fail
  refine (HLG.out _ HFW5.out.bel).mono ?_
  rintro e w7 ⟨rfl, hb7⟩
  have HFW7 : Hid (FW k b l (.slice (some ⟨L, 0, none⟩) l.length gc) w w1.heap.size gz w7) := HFW5.out.below hb7
  have HPC7 : Hid (w7.heap[gp]? = some (.cells #[.int .i64 0, .int .i64 frm, .int .i64 (k.red - 1), .int .i64 0, .int .i64 0] 46)) := (hb7.block _ (Array.getElem?_eq_some_iff.mp HPC5.out).1).trans HPC5.out
  clear a0 a1 a2 a3 a4 a5 a6 a7 c0 c1 c2 c3 c4 hb7 HFW5 HPC5 HLG
  obtain ⟨a0, a1, a2, a3, a4, a5, a6, a7⟩ := ak_cells HFW7.out.ask
  obtain ⟨c0, c1, c2, c3, c4, _⟩ := box5 HPC7.out
  go_wp2
  go_roundw
  case rel => exact ⟨i + 1, _, _, _, by omega, by go_num, rfl, rfl, rfl, HFS.out, HFW7.out⟩
  case measure => simp [intOf]; omega
end Go.Proofs.YtfghdhikjhbbgadDoor
