/- others, Lagging, and what they hand out. -/
import Derived.Test.YtgehhoddmmjmjaaLT
import Derived.Test.YtgehhoddmmjmjaaM3
import Derived.Shelf.Abstract
import Derived.OwnWalkIn
import Derived.TacticsInMore
import Derived.LoopNIn
import Derived.LoopIn
import Derived.Stop.RegionWithIn
namespace Go.Proofs.Ytgehhoddmmjmjaa
open Go.RowKit Go.Shelf
attribute [local go_sem] Oper.semAt_some

/-- Those below k beside s, rising. -/
def othU (s : Nat) : Nat → List Nat
  | 0 => []
  | k + 1 => othU s k ++ if k = s then [] else [k]
theorem othU_skip {s : Nat} : othU s (s + 1) = othU s s := by simp [othU]
theorem othU_next {s k : Nat} (h : k ≠ s) : othU s (k + 1) = othU s k ++ [k] := by simp [othU, h]
theorem othU_prefix (s : Nat) {k n : Nat} (h : k ≤ n) : othU s k <+: othU s n := by
  induction n with
  | zero => obtain rfl : k = 0 := by omega
            exact List.prefix_refl _
  | succ n ih =>
    by_cases c : k = n + 1
    · subst c; exact List.prefix_refl _
    · exact (ih (by omega)).trans (List.prefix_append _ _)
theorem othU_mem {s k j : Nat} (h : j ∈ othU s k) : j < k ∧ j ≠ s := by
  induction k with
  | zero => cases h
  | succ k ih =>
    rw [othU, List.mem_append] at h
    rcases h with h | h
    · have := ih h; exact ⟨by omega, this.2⟩
    · split at h
      · cases h
      · rename_i c; simp at h; subst h; exact ⟨by omega, c⟩

/-- What others hands out. -/
def encO (B : Bk) (i : Nat) : Array Value := #[.int .i64 i, .agg #[.int .i64 (B.nx i), .int .i64 (B.lk i)]]
def KO (b q : Nat) : Nat → Prop := fun k => k = b ∨ k = q

set_option maxRecDepth 100000 in
set_option maxHeartbeats 2000000 in
theorem others1_in (n l q b N : Nat) (B : Bk) (h5 : B.n ≤ 5) (J : List Nat → World → Prop)
    (hY : ∀ pre x W, J pre W → (pre ++ [x]) <+: othU B.self B.n → YieldAt Fence.wide (n - 1) Try.prog l (encO B x) W fun e W' => e = .returned (.bool true) ∧ J (pre ++ [x]) W' ∧ Kd (KO b q) N W W')
    (W : World) (hq : W.cell? ⟨q, 0, none⟩ = some (P0 b)) (IB : IsB W b B) (hj0 : J [] W) :
    CallsIn Fence.wide n Try.prog 42 #[.func (.yield l) #[] #[], .pointer (some ⟨q, 0, none⟩)] W fun e W' => (∃ v, e = .returned v) ∧ ∃ xs, xs = othU B.self B.n ∧ J xs W' := by
  refine callsIn_of_wp Try.func42 rfl trivial ?_ rfl
  simp only [Try.ntmps42, List.size_toArray, List.length_cons, List.length_nil, Nat.reduceAdd, Nat.reduceSub, Array.replicate_succ, Array.replicate_zero, List.push_toArray, List.append_toArray, List.nil_append, List.cons_append]
  have HY := hide hY
  have HI := hide IB
  have c0 := IB.c0
  clear hY IB
  gi_wp2
  clear c0
  gi_loopw [9] (fun i wr => ∃ k : Nat, k ≤ B.n ∧ i = .int .i64 k ∧ J (othU B.self k) wr ∧ Kd (KO b q) N W wr)
    (fun i _ => B.n - (intOf i).toNat)
  case atStart => exact ⟨0, Nat.zero_le _, rfl, hj0, Kd.refl _ _ _⟩
  case round =>
    obtain ⟨k, hk, rfl, hJs, hnx⟩ := hrel
    have HJ := hide hJs
    have HB := hide hnx
    have IB := (unhide HI).keepB (hnx.one b (Or.inl rfl))
    have hq' : wr.cell? ⟨q, 0, none⟩ = some (P0 b) := (World.cell?_of_block (w := W) (a := ⟨q, 0, none⟩) (hnx.one q (Or.inr rfl))).trans hq
    have c1 := IB.c1
    clear hJs hnx
    by_cases hlt : k < B.n
    · have hdb : decide ((k : Int) < B.n) = true := by simp; omega
      have hk0 : (0 : Int) ≤ (k : Int) := by omega
      have hk5 : (k : Int) < 5 := by omega
      have hcn := IB.cn k (by omega)
      have hcl := IB.cl k (by omega)
      clear IB
      by_cases hs : k = B.self
      · subst hs
        gi_wp2
        refine ⟨fun _ h => (by cases h), ?_⟩
        gi_wp2
        go_roundw
        case rel => first | exact ⟨B.self + 1, by omega, by simp, by rw [othU_skip]; exact unhide HJ, unhide HB⟩ | ((repeat apply Exists.intro); exact ⟨⟨B.self + 1, by omega, by simp, by rw [othU_skip]; exact unhide HJ, unhide HB⟩, rfl⟩)
        case measure => simp [intOf]; omega
      · have hne : ((k : Int) != (B.self : Int)) = true := by simp; omega
        obtain ⟨fn, tmps, assign, body, hy, hRR⟩ := unhide HY _ k wr (unhide HJ) (by rw [← othU_next hs]; exact othU_prefix _ (by omega))
        unfold encO at hy
        gi_wp2
        refine ⟨fun h => (by cases h), hRR.mono ?_⟩
        rintro e W3 ⟨rfl, hJ3, hk3⟩
        have HJ3 : Hid (J (othU B.self (k + 1)) W3) := by rw [othU_next hs]; exact hJ3
        have HB3 : Hid (Kd (KO b q) N W W3) := (unhide HB).trans hk3
        clear hJ3 hk3
        gi_wp2
        go_roundw
        case rel => first | exact ⟨k + 1, by omega, by simp, unhide HJ3, unhide HB3⟩ | ((repeat apply Exists.intro); exact ⟨⟨k + 1, by omega, by simp, unhide HJ3, unhide HB3⟩, rfl⟩)
        case measure => simp [intOf]; omega
    · obtain rfl : k = B.n := by omega
      clear IB
      gi_wp2
      go_end0
      exact ⟨⟨_, rfl⟩, _, rfl, unhide HJ⟩

theorem others_deep (n q b : Nat) (B : Bk) (h5 : B.n ≤ 5) (w : World) (hq : w.cell? ⟨q, 0, none⟩ = some (P0 b)) (IB : IsB w b B) :
    SeqDeep Fence.wide n Try.prog 42 #[.pointer (some ⟨q, 0, none⟩)] (encO B) (fun pre x => (pre ++ [x]) <+: othU B.self B.n) (Kd (KO b q)) (fun xs => xs = othU B.self B.n) w := fun l J W hW _ hY hj0 =>
  others1_in n l q b _ B h5 J hY W ((hW.cell (p := ⟨q, 0, none⟩) (World.block_lt_of_cell? w _ hq)).trans hq) (IB.below hW) hj0

set_option maxHeartbeats 400000 in
theorem others_any (b : Nat) (w : World) :
    Calls Try.prog 37 #[P0 b] w fun e w' => e = .returned (.func (.func 42) #[] #[.pointer (some ⟨w.heap.size, 0, none⟩)]) ∧ w' = w.alloc (.cells #[P0 b] 25) := by
  go_enter Try.func37, Try.ntmps37
  go_wp2
  go_ret
  exact ⟨rfl, rfl⟩

/-- Those that lag. -/
def lagF (B : Bk) (i : Nat) : Bool := decide (B.lk i < B.lk B.self)
def lags (B : Bk) : List Nat := (othU B.self B.n).filter (lagF B)
theorem lag_prefix {B : Bk} {pre : List Nat} {x : Nat} (h : (pre ++ [x]) <+: othU B.self B.n) (hl : lagF B x = true) : (pre.filter (lagF B) ++ [x]) <+: lags B := by
  have := h.filter (lagF B)
  rw [List.filter_append] at this
  simpa [hl, lags] using this

theorem round_wide {m k l' : Nat} {P : Program} {l : Nat} {f : FuncId} {tmps : Array Value} {assign body : Code} {w : World} {R : Ending → World → Prop} (h : RoundIn Fence.wide m P l f tmps assign body w R) : RoundIn (Fence.wide.inRound l') k P l f tmps assign body w R :=
  ⟨trivial, fun c cs _ => h.2 c cs (fun _ h => by cases h)⟩

end Go.Proofs.Ytgehhoddmmjmjaa
