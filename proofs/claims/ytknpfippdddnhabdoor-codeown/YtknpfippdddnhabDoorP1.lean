/- readAll in pure terms: where instructions begin; how the list grows. -/
import Derived.Test.YtknpfippdddnhabDoorW9
namespace Go.Proofs.YtknpfippdddnhabDoor
open Go.RowKit
set_option maxRecDepth 100000

/-- The marks, none set: what the load of a great program names, and that of a small one does not. -/
def Tryd.zeroCells59 : Array Value := Array.replicate 512 (.bool false)
theorem Tryd.zeroValue59 (w : World) : (zeroValue 59).run Tryd.prog w = .ok (.agg Tryd.zeroCells59) w := by kernel_rfl
theorem Tryd.zeroCells59_size : Tryd.zeroCells59.size = 512 := by simp [Tryd.zeroCells59]
theorem Tryd.zeroCells59_ne : Tryd.zeroCells59 ≠ #[] := fun h => by have := Tryd.zeroCells59_size; rw [h] at this; cases this

def bgB (L : List Ins) (i : Int) : Bool := L.any fun x => decide (x.ad = i)
/-- Where one of L begins. -/
def bgA (L : List Ins) : Array Value := (Array.range 512).map fun (i : Nat) => .bool (bgB L (i : Int))
theorem bgA_size (L : List Ins) : (bgA L).size = 512 := by simp [bgA]
theorem bgA_zero : Tryd.zeroCells59 = bgA [] := by kernel_rfl
theorem bgA_get (L : List Ins) (i : Nat) (h : i < 512) : (bgA L)[i]? = some (.bool (bgB L i)) := by simp [bgA, h]
theorem bgB_app (L : List Ins) (x : Ins) (i : Int) : bgB (L ++ [x]) i = (bgB L i || decide (x.ad = i)) := by simp [bgB]
theorem bgA_none (L : List Ins) (i : Nat) (h : 512 ≤ i) : (bgA L)[i]? = none := Array.getElem?_eq_none (by rw [bgA_size]; exact h)
theorem bgA_set (L : List Ins) (x : Ins) (p : Nat) (hx : x.ad = p) (hp : p < 512) : (bgA L).setIfInBounds p (.bool true) = bgA (L ++ [x]) := by
  refine Array.ext_getElem? fun i => ?_
  rw [Array.getElem?_setIfInBounds, bgA_size]
  by_cases hi : i < 512
  · rw [bgA_get _ i hi, bgA_get _ i hi, bgB_app, hx]
    by_cases e : p = i
    · rw [if_pos e, if_pos hp, e]; simp
    · rw [if_neg e, decide_eq_false (show ¬ (p : Int) = (i : Int) by omega), Bool.or_false]
  · rw [bgA_none _ i (by omega), bgA_none _ i (by omega), if_neg (by omega)]
theorem rd_ad (l : List Int) (p : Nat) : (rd l p).ad = p := rfl
theorem rd_op (l : List Int) (p : Nat) : (rd l p).op = l.getD p 0 := rfl
theorem vl_nonneg {l : List Int} (h : Byt l) : 0 ≤ vl l ∧ vl l ≤ 65535 := by
  match l, h with
  | [], _ => simp [vl]
  | [x], h => have := h x (by simp); simp [vl]; omega
  | x :: y :: _, h => have := h x (by simp); have := h y (by simp); simp [vl]; omega
theorem rd_im {l : List Int} (h : Byt l) (p : Nat) (hj : jmp (rd l p) = true) : 0 ≤ (rd l p).im := by
  have hj := of_decide_eq_true hj
  rw [rd_op] at hj
  show 0 ≤ imm _ _
  unfold imm
  rw [if_neg (by omega)]
  exact (vl_nonneg ((h.drop _).take _)).1
/-- What readAll's list is at the address p. -/
structure Rl (l : List Int) (p : Nat) (L : List Ins) : Prop where
  wk : wkR l 0 = (L ++ (wkR l p).1, (wkR l p).2)
  hp : p ≤ l.length
  len : L.length ≤ p
  mem : ∀ x ∈ L, ∃ q, q < p ∧ x = rd l q ∧ oneE l q = 0
theorem Rl.start (l : List Int) : Rl l 0 [] := ⟨by simp, Nat.zero_le _, Nat.le_refl _, fun x h => by cases h⟩
theorem Rl.step {l : List Int} {p : Nat} {L : List Ins} (h : Rl l p L) (h0 : oneE l p = 0) : Rl l (p + sA l p) (L ++ [rd l p]) := by
  have hs := sA_pos h0
  refine ⟨?_, by omega, by have := h.len; simp; omega, fun x hx => ?_⟩
  · rw [h.wk, wkR_yes h0]
    simp
  · rcases List.mem_append.1 hx with hx | hx
    · obtain ⟨q, hq, e, e2⟩ := h.mem x hx
      exact ⟨q, by omega, e, e2⟩
    · obtain rfl : x = rd l p := by simpa using hx
      exact ⟨p, by omega, rfl, h0⟩
theorem Rl.done {l : List Int} {p : Nat} {L : List Ins} (h : Rl l p L) (hp : l.length ≤ p) : wkR l 0 = (L, 0) := by
  rw [h.wk, wkR_end hp]; simp
theorem Rl.stop {l : List Int} {p : Nat} {L : List Ins} (h : Rl l p L) (hp : p < l.length) (h0 : oneE l p ≠ 0) : wkR l 0 = (L, oneE l p) := by
  rw [h.wk, wkR_no hp h0]; simp
end Go.Proofs.YtknpfippdddnhabDoor
