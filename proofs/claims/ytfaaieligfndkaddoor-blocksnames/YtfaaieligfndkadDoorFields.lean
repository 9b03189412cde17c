import Derived.Test.YtfaaieligfndkadDoorFldA
import Derived.Test.YtfaaieligfndkadDoorFldB
import Derived.Test.YtfaaieligfndkadDoorFldC
import Derived.Test.YtfaaieligfndkadDoorFldD
import Derived.Test.YtfaaieligfndkadDoorFldE
namespace Go.Proofs.YtfaaieligfndkadDoor
open Go.RowKit

theorem fields_any (h : Int) (s : Sg) (hv tv dv cv : Value) (hx tx : List Xr) (w : World) (hs : SIn w s hv tv dv cv hx tx) :
    Calls Tryd.prog 82 #[.agg (svC s hv tv dv cv), .int .u8 h] w fun e w' => e = .returned (.bool (may h s hx tx)) ∧ ∃ y, w' = ext w y := by
  obtain ⟨ah, ch, rfl, _⟩ := hs.head.shape
  obtain ⟨at', ct, rfl, _⟩ := hs.tail.shape
  obtain ⟨ad, cd, rfl, _⟩ := hs.data.shape
  obtain ⟨ac, cc, rfl, _⟩ := hs.clm.shape
  unfold may
  cases hb0 : btw s.org 1 4611686018427387903
  · have q := fields_0 h s ah at' ad ac ch ct cd cc hx tx w hs hb0
    simpa only [Bool.false_and, Bool.true_and] using q
  rw [Bool.true_and]
  cases hb1 : btw s.num 1 4611686018427387902
  · have q := fields_1 h s ah at' ad ac ch ct cd cc hx tx w hs hb0 hb1
    simpa only [Bool.false_and, Bool.true_and] using q
  rw [Bool.true_and]
  cases hb2 : xsOk hx
  · have q := fields_2 h s ah at' ad ac ch ct cd cc hx tx w hs hb0 hb1 hb2
    simpa only [Bool.false_and, Bool.true_and] using q
  rw [Bool.true_and]
  cases hb3 : xsOk tx
  · have q := fields_3 h s ah at' ad ac ch ct cd cc hx tx w hs hb0 hb1 hb2 hb3
    simpa only [Bool.false_and, Bool.true_and] using q
  rw [Bool.true_and]
  cases hb4 : alw h s.srv 2 0 4611686018427387903
  · have q := fields_4 h s ah at' ad ac ch ct cd cc hx tx w hs hb0 hb1 hb2 hb3 hb4
    simpa only [Bool.false_and, Bool.true_and] using q
  rw [Bool.true_and]
  cases hb5 : alw h (s.data.length : Int) 2 1 65536
  · have q := fields_5 h s ah at' ad ac ch ct cd cc hx tx w hs hb0 hb1 hb2 hb3 hb4 hb5
    simpa only [Bool.false_and, Bool.true_and] using q
  rw [Bool.true_and]
  cases hb6 : alw h s.off 2 0 (65536 - (s.data.length : Int))
  · have q := fields_6 h s ah at' ad ac ch ct cd cc hx tx w hs hb0 hb1 hb2 hb3 hb4 hb5 hb6
    simpa only [Bool.false_and, Bool.true_and] using q
  rw [Bool.true_and]
  cases hb7 : alw h s.chk 12 (one (anyB h 4)) 4611686018427387903
  · have q := fields_7 h s ah at' ad ac ch ct cd cc hx tx w hs hb0 hb1 hb2 hb3 hb4 hb5 hb6 hb7
    simpa only [Bool.false_and, Bool.true_and] using q
  rw [Bool.true_and]
  cases hb8 : alw h s.rep 28 (one (anyB h 24)) 4611686018427387903
  · have q := fields_8 h s ah at' ad ac ch ct cd cc hx tx w hs hb0 hb1 hb2 hb3 hb4 hb5 hb6 hb7 hb8
    simpa only [Bool.false_and, Bool.true_and] using q
  rw [Bool.true_and]
  cases hb9 : alw h s.upp 8 1 65536
  · have q := fields_9 h s ah at' ad ac ch ct cd cc hx tx w hs hb0 hb1 hb2 hb3 hb4 hb5 hb6 hb7 hb8 hb9
    simpa only [Bool.false_and, Bool.true_and] using q
  rw [Bool.true_and]
  cases hb10 : alw h s.low 8 0 (s.upp - 1)
  · have q := fields_10 h s ah at' ad ac ch ct cd cc hx tx w hs hb0 hb1 hb2 hb3 hb4 hb5 hb6 hb7 hb8 hb9 hb10
    simpa only [Bool.false_and, Bool.true_and] using q
  rw [Bool.true_and]
  cases hb11 : alw h (s.clm.length : Int) 8 1 1000
  · have q := fields_11 h s ah at' ad ac ch ct cd cc hx tx w hs hb0 hb1 hb2 hb3 hb4 hb5 hb6 hb7 hb8 hb9 hb10 hb11
    simpa only [Bool.false_and, Bool.true_and] using q
  rw [Bool.true_and]
  cases hb12 : clOk s.upp s.low s.clm
  · have q := fields_12 h s ah at' ad ac ch ct cd cc hx tx w hs hb0 hb1 hb2 hb3 hb4 hb5 hb6 hb7 hb8 hb9 hb10 hb11 hb12
    simpa only [Bool.false_and, Bool.true_and] using q
  rw [Bool.true_and]
  cases hb13 : alw h s.rsn 32 0 5
  · have q := fields_13 h s ah at' ad ac ch ct cd cc hx tx w hs hb0 hb1 hb2 hb3 hb4 hb5 hb6 hb7 hb8 hb9 hb10 hb11 hb12 hb13
    simpa only [Bool.false_and, Bool.true_and] using q
  exact fields_14 h s ah at' ad ac ch ct cd cc hx tx w hs hb0 hb1 hb2 hb3 hb4 hb5 hb6 hb7 hb8 hb9 hb10 hb11 hb12 hb13

end Go.Proofs.YtfaaieligfndkadDoor
