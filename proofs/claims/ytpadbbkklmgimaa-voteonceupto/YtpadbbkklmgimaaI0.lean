/- Votes: the iterator; Clone. -/
import Derived.Test.YtpadbbkklmgimaaNW
import Derived.RangeFuncNested
import Derived.RangeFuncBound
import Derived.RangeFuncCalls
import Derived.RangeFuncLeaves
import Derived.Shelf.Abstract
import Derived.OwnWalkIn
import Derived.TacticsInMore
import Derived.LoopNIn
import Derived.LoopIn
namespace Go.Proofs.Ytpadbbkklmgimaa
open Go.RowKit Go.Shelf
attribute [local go_sem] Oper.semAt_some

/-- Those below k whose votes are there, rising. -/
def uptoV (f : Nat → Bool) : Nat → List Int
  | 0 => []
  | k + 1 => uptoV f k ++ if f k then [(k : Int)] else []
theorem uptoV_le (f : Nat → Bool) (k : Nat) : (uptoV f k).length ≤ k := by
  induction k with
  | zero => exact Nat.le_refl _
  | succ k ih => rw [uptoV, List.length_append]; split <;> simp <;> omega
theorem uptoV_skip {f : Nat → Bool} {k : Nat} (h : f k = false) : uptoV f (k + 1) = uptoV f k := by simp [uptoV, h]
theorem uptoV_next {f : Nat → Bool} {k : Nat} (h : f k = true) : uptoV f (k + 1) = uptoV f k ++ [(k : Int)] := by simp [uptoV, h]

/-- One block stays as it is. -/
structure KB (b : Nat) (A B : World) : Prop where
  one : B.heap[b]? = A.heap[b]?
theorem KB.refl (b : Nat) (A : World) : KB b A A := ⟨rfl⟩
theorem KB.trans {b : Nat} {A B C : World} (h : KB b A B) (k : KB b B C) : KB b A C := ⟨k.one.trans h.one⟩
theorem KB.putObj {b N : Nat} (hb : b < N) (W : World) (l : Nat) (o o' : Obj) (hl : N ≤ l) (_h : W.heap[l]? = some o) (_ : o.isCells = false) (_ : o.isWalk = false) : KB b W (W.putObj l o') := by
  have key : ∀ k, k ≠ l → (W.putObj l o').heap[k]? = W.heap[k]? := fun k hk => by simp [World.putObj, Ne.symm hk]
  exact ⟨key b (by omega)⟩
theorem KB.of {b N : Nat} {A B : World} (h : Below N A B) (hb : b < N) : KB b A B := ⟨h.block b hb⟩

set_option maxRecDepth 100000 in
set_option maxHeartbeats 2000000 in
theorem votes1_in (F : Fence) (n : Nat) (h7 : F.fn 34) (hro : F.round = none) (hn : 1 ≤ n) (l b len : Nat) (f : Nat → Bool) (hlen : len ≤ 5) (J Jx : List Int → World → Prop)
    (hY : ∀ pre x W, J pre W → pre.length < len → YieldAt F (n - 1) Try.prog l #[.int .i64 x] W fun e W' =>
      (e = .returned (.bool true) ∧ J (pre ++ [x]) W' ∧ KB b W W') ∨ (e = .returned (.bool false) ∧ Jx (pre ++ [x]) W'))
    (W : World) (h0 : W.cell? ⟨b, 0, none⟩ = some (.int .i64 len)) (hc : ∀ i, i < 5 → W.cell? ⟨b, 4 + i, none⟩ = some (.bool (f i))) (hj0 : J [] W) :
    CallsIn F n Try.prog 34 #[.func (.yield l) #[] #[], .pointer (some ⟨b, 0, none⟩)] W fun e W' => (∃ v, e = .returned v) ∧
      (J (uptoV f len) W' ∨ (∃ pre, (∃ k, k < len ∧ f k = true ∧ pre = uptoV f (k + 1)) ∧ Jx pre W')) := by
  refine callsIn_of_wp Try.func34 rfl h7 ?_ hro
  simp only [Try.ntmps34, List.size_toArray, List.length_cons, List.length_nil, Nat.reduceAdd, Nat.reduceSub, Array.replicate_succ, Array.replicate_zero, List.push_toArray, List.append_toArray, List.nil_append, List.cons_append]
  have HC := hide hc
  have HY := hide hY
  clear hc hY
  gi_wp2
  gi_loopw [7] (fun i wr => ∃ k : Nat, k ≤ len ∧ i = .int .i64 k ∧ J (uptoV f k) wr ∧ KB b W wr)
    (fun i _ => len - (intOf i).toNat)
  case atStart => exact ⟨0, Nat.zero_le _, rfl, hj0, KB.refl _ _⟩
  case round =>
    obtain ⟨k, hk, rfl, hJs, hnx⟩ := hrel
    have HJ := hide hJs
    have HB := hide hnx
    have hle := uptoV_le f k
    clear hJs hnx
    by_cases hlt : k < len
    · have hdb : decide ((k : Int) < len) = true := by simp; omega
      have hk0 : (0 : Int) ≤ (k : Int) := by omega
      have hk5 : (k : Int) < 5 := by omega
      have hcx := (World.cell?_of_block (w := W) (a := ⟨b, 4 + k, none⟩) (unhide HB).one).trans (unhide HC k (by omega))
      cases hs : f k
      · have HR := hide (uptoV_skip hs)
        rw [hs] at hcx
        gi_wp2
        refine ⟨fun _ h => (by cases h), ?_⟩
        gi_wp2
        go_roundw
        case rel => first | exact ⟨k + 1, by omega, by simp, by rw [unhide HR]; exact unhide HJ, unhide HB⟩ | ((repeat apply Exists.intro); exact ⟨⟨k + 1, by omega, by simp, by rw [unhide HR]; exact unhide HJ, unhide HB⟩, rfl⟩)
        case measure => simp [intOf]; omega
      · have HR := hide (uptoV_next hs)
        rw [hs] at hcx
        obtain ⟨fn, tmps, assign, body, hy, hRR⟩ := unhide HY _ (k : Int) wr (unhide HJ) (by omega)
        gi_wp2
        refine hRR.mono ?_
        rintro e W3 (⟨rfl, hJ3, hk3⟩ | ⟨rfl, hJx3⟩)
        · have HJ3 : Hid (J (uptoV f (k + 1)) W3) := by rw [unhide HR]; exact hJ3
          have HB3 : Hid (KB b W W3) := (unhide HB).trans hk3
          clear hJ3 hk3
          gi_wp2
          go_roundw
          case rel => first | exact ⟨k + 1, by omega, by simp, unhide HJ3, unhide HB3⟩ | ((repeat apply Exists.intro); exact ⟨⟨k + 1, by omega, by simp, unhide HJ3, unhide HB3⟩, rfl⟩)
          case measure => simp [intOf]; omega
        · have HJ3 : Hid (Jx (uptoV f (k + 1)) W3) := by rw [unhide HR]; exact hJx3
          clear hJx3
          gi_wp2
          refine bodyPost_ret (results_none rfl _ _ _) rfl ?_
          exact ⟨⟨_, rfl⟩, .inr ⟨_, ⟨k, hlt, hs, rfl⟩, unhide HJ3⟩⟩
    · obtain rfl : k = len := by omega
      gi_wp2
      go_end0
      exact ⟨⟨_, rfl⟩, .inl (unhide HJ)⟩

/-- .. as a contract of the walk of a range over a function. -/
theorem votes_stops (F : Fence) (n : Nat) (h7 : F.fn 34) (hro : F.round = none) (hn : 1 ≤ n) (b len : Nat) (f : Nat → Bool) (hlen : len ≤ 5) (w : World) (hb : b < w.heap.size)
    (h0 : w.cell? ⟨b, 0, none⟩ = some (.int .i64 len)) (hc : ∀ i, i < 5 → w.cell? ⟨b, 4 + i, none⟩ = some (.bool (f i))) :
    SeqStopsK F n Try.prog 34 #[.pointer (some ⟨b, 0, none⟩)] (fun x : Int => #[Value.int .i64 x]) (KB b) (fun ys => ys = uptoV f len) (fun pre => ∃ k, k < len ∧ f k = true ∧ pre = uptoV f (k + 1)) len w := fun l J Jx W hW _ _ hY hj0 => by
  refine (votes1_in F n h7 hro hn l b len f hlen J Jx hY W ((hW.cell (p := ⟨b, 0, none⟩) hb).trans h0) (fun i hi => (hW.cell (p := ⟨b, 4 + i, none⟩) hb).trans (hc i hi)) hj0).mono ?_
  rintro e W' ⟨he, hj | ⟨pre, hk, hj⟩⟩
  · exact ⟨he, .inl ⟨_, rfl, hj⟩⟩
  · exact ⟨he, .inr ⟨_, hk, hj⟩⟩

/-- What no call made, all of it: nil, or a struct of nothing. -/
def IsZero (w : World) (v : Value) : Prop := v = .pointer none ∨ ∃ h, v = P0 h ∧ IsV w h ⟨0, 0, 0, 0, fun _ => false⟩
theorem IsZero.no {w : World} {v : Value} (h : IsZero w v) : IsNo w v := h.imp id fun ⟨k, e, H⟩ => ⟨k, e, H.c0⟩
theorem IsZero.below {w w' : World} {v : Value} (h : IsZero w v) (hb : Below w.heap.size w w') : IsZero w' v := h.imp id fun ⟨k, e, H⟩ => ⟨k, e, H.below hb⟩

/-- What Votes hands back: an iterator over a copy. -/
abbrev It (b : Nat) : Value := .func (.func 34) #[] #[.pointer (some ⟨b, 0, none⟩)]

set_option maxHeartbeats 400000 in
theorem votes_any {h : Nat} {V : Vt} {w : World} (H : IsV w h V) :
    Calls Try.prog 22 #[P0 h] w fun e w' => e = .returned (It w.heap.size) ∧ IsV w' w.heap.size V ∧ Below w.heap.size w w' := by
  have h0 := H.c0; have h1 := H.c1; have h2 := H.c2; have h3 := H.c3
  have v0 := H.cv 0 (by decide); have v1 := H.cv 1 (by decide); have v2 := H.cv 2 (by decide); have v3 := H.cv 3 (by decide); have v4 := H.cv 4 (by decide)
  have hlt := H.lt
  clear H
  go_enter Try.func22, Try.ntmps22
  go_wp2
  go_ret
  exact ⟨rfl, isV_new w _ V rfl rfl, (Below.refl _ _).alloc (Nat.le_refl _) _⟩

set_option maxHeartbeats 400000 in
theorem votes_no {v : Value} {w : World} (H : IsZero w v) :
    Calls Try.prog 22 #[v] w fun e w' => e = .returned (It w.heap.size) ∧ IsV w' w.heap.size ⟨0, 0, 0, 0, fun _ => false⟩ ∧ Below w.heap.size w w' := by
  rcases H with rfl | ⟨h, rfl, H⟩
  · go_enter Try.func22, Try.ntmps22
    go_wp2
    go_ret
    exact ⟨rfl, isV_new w _ ⟨0, 0, 0, 0, fun _ => false⟩ rfl rfl, (Below.refl _ _).alloc (Nat.le_refl _) _⟩
  · exact votes_any H

set_option maxHeartbeats 400000 in
theorem clone_any {h : Nat} {V : Vt} {w : World} (H : IsV w h V) (O : V.Ok) :
    Calls Try.prog 23 #[P0 h] w fun e w' => e = .returned (P0 w.heap.size) ∧ IsV w' w.heap.size V ∧ Below w.heap.size w w' := by
  have h0 := H.c0; have h1 := H.c1; have h2 := H.c2; have h3 := H.c3
  have v0 := H.cv 0 (by decide); have v1 := H.cv 1 (by decide); have v2 := H.cv 2 (by decide); have v3 := H.cv 3 (by decide); have v4 := H.cv 4 (by decide)
  have HM := hide (made_yes H O)
  have hlt := H.lt
  clear H O
  go_enter Try.func23, Try.ntmps23
  go_wp2_with (first
      | (go_at_call 31; refine (unhide HM).mono ?_; rintro e w' ⟨rfl, rfl⟩))
  go_ret
  exact ⟨rfl, isV_new w _ V rfl rfl, (Below.refl _ _).alloc (Nat.le_refl _) _⟩

set_option maxHeartbeats 400000 in
theorem clone_no {v : Value} {w : World} (H : IsNo w v) :
    Calls Try.prog 23 #[v] w fun e w' => e = .returned (.pointer none) ∧ w = w' := by
  have HM := hide (made_no H)
  clear H
  go_enter Try.func23, Try.ntmps23
  go_wp2_with (go_at_call 31; refine (unhide HM).mono ?_; rintro e w' ⟨rfl, rfl⟩)
  go_ret
  exact ⟨rfl, rfl⟩

end Go.Proofs.Ytpadbbkklmgimaa
