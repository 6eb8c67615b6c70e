/- The iterator over the pages in use. -/
import Derived.Test.YtiijbklaapaheaaKB
import Derived.RangeFuncNested
import Derived.RangeFuncBound
import Derived.RangeFuncCalls
import Derived.RangeFuncLeaves
import Derived.Shelf.Abstract
import Derived.WalkKit
import Derived.OwnWalkIn
import Derived.TacticsInMore
import Derived.LoopNIn
import Derived.LoopIn
namespace Go.Proofs.Ytiijbklaapaheaa
open Go.RowKit Go.Shelf
set_option maxRecDepth 100000
attribute [local go_sem] Oper.semAt_some

/-- What has been handed out before page k of block i. -/
def uptoU (st : Nat → Nat → Int) (i k : Nat) : List (Int × Int) := allU st i ++ rowU (st i) i k
theorem uptoU_le (st : Nat → Nat → Int) (i k : Nat) : (uptoU st i k).length ≤ i * 16 + k := by
  have h1 := allU_le st i; have h2 := rowU_le (st i) i k
  rw [uptoU, List.length_append]; omega
theorem uptoU_zero (st : Nat → Nat → Int) (i : Nat) : uptoU st i 0 = allU st i := by simp [uptoU, rowU]
theorem uptoU_skip {st : Nat → Nat → Int} {i k : Nat} (h : st i k = 0) : uptoU st i (k + 1) = uptoU st i k := by
  show allU st i ++ (rowU (st i) i k ++ if st i k ≠ 0 then _ else _) = _; rw [if_neg (not_not_intro h)]; simp [uptoU]
theorem uptoU_next {st : Nat → Nat → Int} {i k : Nat} (h : ¬ st i k = 0) : uptoU st i (k + 1) = uptoU st i k ++ [((i : Int), (k : Int))] := by
  show allU st i ++ (rowU (st i) i k ++ if st i k ≠ 0 then _ else _) = _; rw [if_pos h]; simp [uptoU]

/-- Two blocks stay as they are. -/
structure KT (b c : Nat) (A B : World) : Prop where
  one : B.heap[b]? = A.heap[b]?
  two : B.heap[c]? = A.heap[c]?
theorem KT.refl (b c : Nat) (A : World) : KT b c A A := ⟨rfl, rfl⟩
theorem KT.trans {b c : Nat} {A B C : World} (h : KT b c A B) (k : KT b c B C) : KT b c A C := ⟨k.one.trans h.one, k.two.trans h.two⟩
theorem KT.putObj {b c N : Nat} (hb : b < N) (hc : c < N) (W : World) (l : Nat) (o o' : Obj) (hl : N ≤ l) (_h : W.heap[l]? = some o) (_ : o.isCells = false) (_ : o.isWalk = false) : KT b c W (W.putObj l o') := by
  have key : ∀ k, k ≠ l → (W.putObj l o').heap[k]? = W.heap[k]? := fun k hk => by simp [World.putObj, Ne.symm hk]
  exact ⟨key b (by omega), key c (by omega)⟩
theorem KT.of {b c N : Nat} {A B : World} (h : Below N A B) (hb : b < N) (hc : c < N) : KT b c A B := ⟨h.block b hb, h.block c hc⟩

set_option maxRecDepth 100000 in
set_option maxHeartbeats 2000000 in
theorem used1_in (F : Fence) (n : Nat) (h7 : F.fn 82) (hro : F.round = none) (hn : 1 ≤ n) (l Bs b len cap : Nat) (st : Nat → Nat → Int) (hlc : len ≤ cap) (hreach : len ≤ 1024) (J Jx : List (Int × Int) → World → Prop)
    (hY : ∀ pre x W, J pre W → pre.length < len * 16 → YieldAt F (n - 1) Try.prog l #[.agg #[.int .i64 x.1, .int .i64 x.2]] W fun e W' =>
      (e = .returned (.bool true) ∧ J (pre ++ [x]) W' ∧ KT b Bs W W') ∨ (e = .returned (.bool false) ∧ Jx (pre ++ [x]) W'))
    (W : World) (hBs : W.cell? ⟨Bs, 0, none⟩ = some (.slice (some ⟨b, 0, none⟩) len cap)) (hc : ∀ i j, i < len → j < 16 → W.cell? ⟨b, i * 33 + j * 2, none⟩ = some (.int .i64 (st i j))) (h0 : J [] W) :
    CallsIn F n Try.prog 82 #[.func (.yield l) #[] #[], .pointer (some ⟨Bs, 0, none⟩)] W fun e W' => (∃ v, e = .returned v) ∧
      (J (allU st len) W' ∨ (∃ pre, (∃ i k, i < len ∧ k < 16 ∧ pre = uptoU st i (k + 1)) ∧ Jx pre W')) := by
  refine callsIn_of_wp Try.func82 rfl h7 ?_ hro
  simp only [Try.ntmps82, List.size_toArray, List.length_cons, List.length_nil, Nat.reduceAdd, Nat.reduceSub, Array.replicate_succ, Array.replicate_zero, List.push_toArray, List.append_toArray, List.nil_append, List.cons_append]
  have HC := hide hc
  have HY := hide hY
  clear hc hY
  gi_wp2
  gi_loopw [7] (fun i wr => ∃ k : Nat, k ≤ len ∧ i = .int .i64 k ∧ J (allU st k) wr ∧ KT b Bs W wr)
    (fun i _ => len - (intOf i).toNat)
  case atStart => exact ⟨0, Nat.zero_le _, rfl, h0, KT.refl _ _ _⟩
  case round =>
    obtain ⟨i, hi, rfl, hJs, hnx⟩ := hrel
    have HJ := hide hJs
    have HB := hide hnx
    clear hJs hnx
    by_cases hlt : i < len
    · have hdb : decide ((i : Int) < len) = true := by simp; omega
      gi_wp2
      gi_loopw [10] (fun i' wr => ∃ k : Nat, k ≤ 16 ∧ i' = .int .i64 k ∧ J (uptoU st i k) wr ∧ KT b Bs W wr)
        (fun i' _ => 16 - (intOf i').toNat)
      case atStart => exact ⟨0, Nat.zero_le _, rfl, by rw [uptoU_zero]; exact unhide HJ, unhide HB⟩
      case round =>
        obtain ⟨k, hk, rfl, hJs, hnx⟩ := hrel
        have HJ2 := hide hJs
        have HB2 := hide hnx
        have hle := uptoU_le st i k
        have hBs' := (World.cell?_of_block (w := W) (a := ⟨Bs, 0, none⟩) hnx.two).trans hBs
        clear hJs hnx
        by_cases hk16 : k < 16
        · have hdk : decide ((k : Int) < 16) = true := by simp; omega
          have hcx := (World.cell?_of_block (w := W) (a := ⟨b, i * 33 + k * 2, none⟩) (unhide HB2).one).trans (unhide HC i k hlt hk16)
          by_cases hs : st i k = 0
          · have HR := hide (uptoU_skip hs)
            rw [hs] at hcx
            clear hs
            gi_wp2
            refine ⟨fun _ h => (by cases h), ?_⟩
            gi_wp2
            go_roundw
            case rel => first | exact ⟨k + 1, by omega, by simp, by rw [unhide HR]; exact unhide HJ2, unhide HB2⟩ | ((repeat apply Exists.intro); exact ⟨⟨k + 1, by omega, by simp, by rw [unhide HR]; exact unhide HJ2, unhide HB2⟩, rfl⟩)
            case measure => simp [intOf]; omega
          · have HR := hide (uptoU_next hs)
            have hbq : (st i k == 0) = false := by simpa using hs
            obtain ⟨fn, tmps, assign, body, hy, hRR⟩ := unhide HY _ ((i : Int), (k : Int)) wr (unhide HJ2) (by omega)
            dsimp only at hy
            have hbd : decide (st i k = 0) = false := by simpa using hs
            gi_wp2
            refine hRR.mono ?_
            rintro e W3 (⟨rfl, hJ3, hk3⟩ | ⟨rfl, hJx3⟩)
            · have HJ3 : Hid (J (uptoU st i (k + 1)) W3) := by rw [unhide HR]; exact hJ3
              have HB3 : Hid (KT b Bs W W3) := (unhide HB2).trans hk3
              clear hJ3 hk3
              gi_wp2
              go_roundw
              case rel => first | exact ⟨k + 1, by omega, by simp, unhide HJ3, unhide HB3⟩ | ((repeat apply Exists.intro); exact ⟨⟨k + 1, by omega, by simp, unhide HJ3, unhide HB3⟩, rfl⟩)
              case measure => simp [intOf]; omega
            · have HJ3 : Hid (Jx (uptoU st i (k + 1)) W3) := by rw [unhide HR]; exact hJx3
              clear hJx3
              gi_wp2
              refine bodyPost_ret (results_none rfl _ _ _) rfl ?_
              exact ⟨⟨_, rfl⟩, .inr ⟨_, ⟨i, k, hlt, hk16, rfl⟩, unhide HJ3⟩⟩
        · obtain rfl : k = 16 := by omega
          gi_wp2
          go_roundw
          case rel => first | exact ⟨i + 1, by omega, by simp, unhide HJ2, unhide HB2⟩ | ((repeat apply Exists.intro); exact ⟨⟨i + 1, by omega, by simp, unhide HJ2, unhide HB2⟩, rfl⟩)
          case measure => simp [intOf]; omega
    · obtain rfl : i = len := by omega
      gi_wp2
      go_end0
      exact ⟨⟨_, rfl⟩, .inl (unhide HJ)⟩

/-- .. as a contract of the walk of a range over a function. -/
theorem used_stops (F : Fence) (n : Nat) (h7 : F.fn 82) (hro : F.round = none) (hn : 1 ≤ n) (Bs b len cap : Nat) (st : Nat → Nat → Int) (hlc : len ≤ cap) (hreach : len ≤ 1024) (w : World) (hb : b < w.heap.size) (hBn : Bs < w.heap.size)
    (hBs : w.cell? ⟨Bs, 0, none⟩ = some (.slice (some ⟨b, 0, none⟩) len cap)) (hc : ∀ i j, i < len → j < 16 → w.cell? ⟨b, i * 33 + j * 2, none⟩ = some (.int .i64 (st i j))) :
    SeqStopsK F n Try.prog 82 #[.pointer (some ⟨Bs, 0, none⟩)] (fun x : Int × Int => #[Value.agg #[Value.int .i64 x.1, .int .i64 x.2]]) (KT b Bs) (fun ys => ys = allU st len) (fun pre => ∃ i k, i < len ∧ k < 16 ∧ pre = uptoU st i (k + 1)) (len * 16) w := fun l J Jx W hW _ _ hY h0 => by
  refine (used1_in F n h7 hro hn l Bs b len cap st hlc hreach J Jx hY W ((hW.cell (p := ⟨Bs, 0, none⟩) hBn).trans hBs) (fun i j hi hj => (hW.cell (p := ⟨b, i * 33 + j * 2, none⟩) hb).trans (hc i j hi hj)) h0).mono ?_
  rintro e W' ⟨he, hj | ⟨pre, hk, hj⟩⟩
  · exact ⟨he, .inl ⟨_, rfl, hj⟩⟩
  · exact ⟨he, .inr ⟨_, hk, hj⟩⟩

set_option maxRecDepth 100000 in
theorem used_fn {w : World} (a : Option Addr) (n c : Nat) :
    Calls Try.prog 56 #[.slice a n c] w fun e w' => e = .returned (.func (.func 82) #[] #[.pointer (some ⟨w.heap.size, 0, none⟩)]) ∧ w' = w.alloc (.cells #[.slice a n c] 80) := by
  go_enter Try.func56, Try.ntmps56
  go_wp2
  go_ret
  exact ⟨rfl, rfl⟩
end Go.Proofs.Ytiijbklaapaheaa
