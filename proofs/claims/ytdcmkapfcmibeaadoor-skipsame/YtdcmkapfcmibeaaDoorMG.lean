/- The iterators of slices.Values, and the one that tells nothing. -/
import Derived.Test.YtdcmkapfcmibeaaDoorMF
namespace Go.Proofs.YtdcmkapfcmibeaaDoor
open Go.RowKit Go.Shelf
attribute [local go_sem] Oper.semAt_some
set_option maxRecDepth 100000

theorem none_seq {α : Type} (n : Nat) (encs : α → Array Value) (Ok : List α → α → Prop) (Kp : World → World → Prop) (w : World) : SeqOk Fence.wide n Tryd.prog 73 #[] encs Ok Kp (fun xs => xs = []) w := fun l J Jx W _ _ _ hj0 => by
  refine callsIn_of_wp Tryd.func73 rfl trivial ?_ rfl
  simp only [Tryd.ntmps73, List.size_toArray, List.length_cons, List.length_nil, Nat.reduceAdd, Nat.reduceSub, Array.replicate_succ, Array.replicate_zero, List.push_toArray, List.append_toArray, List.nil_append, List.cons_append]
  gi_wp2
  go_end0
  exact ⟨⟨_, rfl⟩, .inl ⟨_, rfl, hj0⟩⟩

def encvk (x : Ky) : Array Value := #[.agg #[.int .i32 x.1, .int .i64 x.2]]
set_option maxHeartbeats 1000000 in
theorem vk1_in (n lp bx gb ob : Nat) (ao : Option Addr) (cap : Nat) (l : List Ky) (hlen : l.length ≤ 140737488351232) (_hcap : l.length ≤ cap) (hao : 0 < l.length → ao = some ⟨gb, ob, none⟩) (b : Nat → Prop) (hbg : b gb) (J Jx : List Ky → World → Prop)
    (hJa : ∀ s A o, J s A → J s (A.alloc o))
    (hY : ∀ pre x W1, J pre W1 → (∃ r, pre ++ x :: r = l) → YieldAt Fence.wide (n - 1) Tryd.prog lp (encvk x) W1 fun e W' => (e = .returned (.bool true) ∧ J (pre ++ [x]) W' ∧ Keepb b W1 W') ∨ (e = .returned (.bool false) ∧ Jx (pre ++ [x]) W'))
    (W : World) (c0 : W.cell? ⟨bx, 0, none⟩ = some (.slice ao l.length cap)) (hcells : ∀ t, t < l.length → W.cell? ⟨gb, ob + t * 2, none⟩ = some (.int .i32 (l.getD t default).1) ∧ W.cell? ⟨gb, ob + t * 2 + 1, none⟩ = some (.int .i64 (l.getD t default).2)) (hbl : ∀ k, b k → k < W.heap.size) (hj0 : J [] W) :
    CallsIn Fence.wide n Tryd.prog 78 #[.func (.yield lp) #[] #[], PN bx] W fun e W' => (∃ v, e = .returned v) ∧ ((∃ xs, xs = l ∧ J xs W') ∨ ∃ pre, Jx pre W') := by
  refine callsIn_of_wp Tryd.func78 rfl trivial ?_ rfl
  simp only [Tryd.ntmps78, List.size_toArray, List.length_cons, List.length_nil, Nat.reduceAdd, Nat.reduceSub, Array.replicate_succ, Array.replicate_zero, List.push_toArray, List.append_toArray, List.nil_append, List.cons_append]
  have HY := hide hY
  have HC := hide hcells
  have HBL := hide hbl
  clear hY hcells hbl
  gi_wp2
  gi_loopw [7] (fun i wr => ∃ pre r, l = pre ++ r ∧ i = .int .i64 (pre.length : Nat) ∧ J pre wr ∧ Keepb b W wr) (fun i _ => l.length - (intOf i).toNat)
  case atStart => exact ⟨[], l, rfl, rfl, hj0, Keepb.refl _ _⟩
  case round =>
    obtain ⟨pre, r, hl, rfl, hj, hnx⟩ := hrel
    clear c0 hj0
    obtain ⟨i, hi⟩ : ∃ i, pre.length = i := ⟨_, rfl⟩
    cases r with
    | nil =>
      have hdb : decide ((i : Int) < (l.length : Int)) = false := by rw [← hi, hl, List.append_nil]; simp
      have hnl : ¬ i < l.length := by rw [← hi, hl, List.append_nil]; omega
      rw [hi]
      have HF := hide (And.intro hl hj)
      clear hl hj hi hnx
      gi_wp2
      go_end0
      obtain ⟨hl, hj⟩ := unhide HF
      rw [List.append_nil] at hl
      exact ⟨⟨_, rfl⟩, .inl ⟨_, hl.symm, hj⟩⟩
    | cons x r =>
      have hil : i < l.length := by rw [← hi, hl]; simp
      have hx : l.getD i default = x := by rw [← hi, hl]; simp [List.getD]
      have hcc := unhide HC i hil
      obtain rfl := hao (by omega)
      have hdb : decide ((i : Int) < (l.length : Int)) = true := by simp; omega
      have hi0 : (0 : Int) ≤ (i : Int) := by omega
      have hi1 : (i : Int) < (l.length : Int) := by omega
      have q0 : wr.cell? ⟨gb, ob + i * 2, none⟩ = some (.int .i32 x.1) := by rw [← hx]; exact (hnx.cell (p := ⟨gb, ob + i * 2, none⟩) hbg).trans (hcc.1)
      have q1 : wr.cell? ⟨gb, ob + i * 2 + 1, none⟩ = some (.int .i64 x.2) := by rw [← hx]; exact (hnx.cell (p := ⟨gb, ob + i * 2 + 1, none⟩) hbg).trans (hcc.2)
      obtain ⟨m, hm⟩ : ∃ m, l.length = m := ⟨_, rfl⟩
      rw [hm] at hdb hi1
      obtain ⟨fn, tmps, assign, body, hyy, hR⟩ := (unhide HY) pre x (wr.alloc (.cells #[.int .i32 x.1, .int .i64 x.2] 30)) (hJa _ _ _ hj) ⟨r, hl.symm⟩
      unfold encvk at hyy
      obtain ⟨i1, hi1e⟩ : ∃ i1, i + 1 = i1 := ⟨_, rfl⟩
      have hwi : IntKind.i64.wrap ((i : Int) + 1) = (i1 : Int) := by rw [wrap_i64 _ (by omega) (by omega)]; omega
      have hms : m - i1 < m - i := by omega
      have HK : Hid (Keepb b W (wr.alloc (.cells #[.int .i32 x.1, .int .i64 x.2] 30))) := ⟨Nat.le_trans hnx.size (by simp), fun k hk => (Below.heap_alloc _ _ _ (by have := unhide HBL k hk; have := hnx.size; omega)).trans (hnx.block k hk)⟩
      have HF := hide (And.intro hl (And.intro hi hi1e))
      rw [hi, hm]
      clear hl hj hi hnx hx hcc hi1e hil _hcap hlen hm hao
      gi_wp2
      refine ⟨fun h => (by cases h), hR.mono ?_⟩
      rintro e W3 (⟨rfl, hJ3, hk3⟩ | ⟨rfl, hJx3⟩)
      · have HJ3 := hide (And.intro hJ3 hk3)
        clear hJ3 hk3 q0 q1
        gi_wp2
        go_roundw
        case rel =>
          obtain ⟨hl, hi, hi1e⟩ := unhide HF
          exact ⟨pre ++ [x], r, by rw [hl]; simp, by rw [List.length_append, hi]; simp only [List.length_singleton]; rw [hi1e], (unhide HJ3).1, (unhide HK).trans (unhide HJ3).2⟩
        case measure => simpa [intOf] using hms
      · gi_wp2
        refine bodyPost_ret (results_none rfl _ _ _) rfl ?_
        exact ⟨⟨_, rfl⟩, .inr ⟨_, hJx3⟩⟩

def encvc (x : Pr) : Array Value := #[.agg #[.int .i32 x.1.1, .int .i64 x.1.2, .int .i64 x.2.1, .int .i64 x.2.2]]
set_option maxHeartbeats 1000000 in
theorem vc1_in (n lp bx gb ob : Nat) (ao : Option Addr) (cap : Nat) (l : List Pr) (hlen : l.length ≤ 140737488351232) (_hcap : l.length ≤ cap) (hao : 0 < l.length → ao = some ⟨gb, ob, none⟩) (b : Nat → Prop) (hbg : b gb) (J Jx : List Pr → World → Prop)
    (hJa : ∀ s A o, J s A → J s (A.alloc o))
    (hY : ∀ pre x W1, J pre W1 → (∃ r, pre ++ x :: r = l) → YieldAt Fence.wide (n - 1) Tryd.prog lp (encvc x) W1 fun e W' => (e = .returned (.bool true) ∧ J (pre ++ [x]) W' ∧ Keepb b W1 W') ∨ (e = .returned (.bool false) ∧ Jx (pre ++ [x]) W'))
    (W : World) (c0 : W.cell? ⟨bx, 0, none⟩ = some (.slice ao l.length cap)) (hcells : ∀ t, t < l.length → W.cell? ⟨gb, ob + t * 4, none⟩ = some (.int .i32 (l.getD t default).1.1) ∧ W.cell? ⟨gb, ob + t * 4 + 1, none⟩ = some (.int .i64 (l.getD t default).1.2) ∧ W.cell? ⟨gb, ob + t * 4 + 2, none⟩ = some (.int .i64 (l.getD t default).2.1) ∧ W.cell? ⟨gb, ob + t * 4 + 3, none⟩ = some (.int .i64 (l.getD t default).2.2)) (hbl : ∀ k, b k → k < W.heap.size) (hj0 : J [] W) :
    CallsIn Fence.wide n Tryd.prog 79 #[.func (.yield lp) #[] #[], PN bx] W fun e W' => (∃ v, e = .returned v) ∧ ((∃ xs, xs = l ∧ J xs W') ∨ ∃ pre, Jx pre W') := by
  refine callsIn_of_wp Tryd.func79 rfl trivial ?_ rfl
  simp only [Tryd.ntmps79, List.size_toArray, List.length_cons, List.length_nil, Nat.reduceAdd, Nat.reduceSub, Array.replicate_succ, Array.replicate_zero, List.push_toArray, List.append_toArray, List.nil_append, List.cons_append]
  have HY := hide hY
  have HC := hide hcells
  have HBL := hide hbl
  clear hY hcells hbl
  gi_wp2
  gi_loopw [7] (fun i wr => ∃ pre r, l = pre ++ r ∧ i = .int .i64 (pre.length : Nat) ∧ J pre wr ∧ Keepb b W wr) (fun i _ => l.length - (intOf i).toNat)
  case atStart => exact ⟨[], l, rfl, rfl, hj0, Keepb.refl _ _⟩
  case round =>
    obtain ⟨pre, r, hl, rfl, hj, hnx⟩ := hrel
    clear c0 hj0
    obtain ⟨i, hi⟩ : ∃ i, pre.length = i := ⟨_, rfl⟩
    cases r with
    | nil =>
      have hdb : decide ((i : Int) < (l.length : Int)) = false := by rw [← hi, hl, List.append_nil]; simp
      have hnl : ¬ i < l.length := by rw [← hi, hl, List.append_nil]; omega
      rw [hi]
      have HF := hide (And.intro hl hj)
      clear hl hj hi hnx
      gi_wp2
      go_end0
      obtain ⟨hl, hj⟩ := unhide HF
      rw [List.append_nil] at hl
      exact ⟨⟨_, rfl⟩, .inl ⟨_, hl.symm, hj⟩⟩
    | cons x r =>
      have hil : i < l.length := by rw [← hi, hl]; simp
      have hx : l.getD i default = x := by rw [← hi, hl]; simp [List.getD]
      have hcc := unhide HC i hil
      obtain rfl := hao (by omega)
      have hdb : decide ((i : Int) < (l.length : Int)) = true := by simp; omega
      have hi0 : (0 : Int) ≤ (i : Int) := by omega
      have hi1 : (i : Int) < (l.length : Int) := by omega
      have q0 : wr.cell? ⟨gb, ob + i * 4, none⟩ = some (.int .i32 x.1.1) := by rw [← hx]; exact (hnx.cell (p := ⟨gb, ob + i * 4, none⟩) hbg).trans (hcc.1)
      have q1 : wr.cell? ⟨gb, ob + i * 4 + 1, none⟩ = some (.int .i64 x.1.2) := by rw [← hx]; exact (hnx.cell (p := ⟨gb, ob + i * 4 + 1, none⟩) hbg).trans (hcc.2.1)
      have q2 : wr.cell? ⟨gb, ob + i * 4 + 2, none⟩ = some (.int .i64 x.2.1) := by rw [← hx]; exact (hnx.cell (p := ⟨gb, ob + i * 4 + 2, none⟩) hbg).trans (hcc.2.2.1)
      have q3 : wr.cell? ⟨gb, ob + i * 4 + 3, none⟩ = some (.int .i64 x.2.2) := by rw [← hx]; exact (hnx.cell (p := ⟨gb, ob + i * 4 + 3, none⟩) hbg).trans (hcc.2.2.2)
      obtain ⟨m, hm⟩ : ∃ m, l.length = m := ⟨_, rfl⟩
      rw [hm] at hdb hi1
      obtain ⟨fn, tmps, assign, body, hyy, hR⟩ := (unhide HY) pre x (wr.alloc (.cells #[.int .i32 x.1.1, .int .i64 x.1.2, .int .i64 x.2.1, .int .i64 x.2.2] 32)) (hJa _ _ _ hj) ⟨r, hl.symm⟩
      unfold encvc at hyy
      obtain ⟨i1, hi1e⟩ : ∃ i1, i + 1 = i1 := ⟨_, rfl⟩
      have hwi : IntKind.i64.wrap ((i : Int) + 1) = (i1 : Int) := by rw [wrap_i64 _ (by omega) (by omega)]; omega
      have hms : m - i1 < m - i := by omega
      have HK : Hid (Keepb b W (wr.alloc (.cells #[.int .i32 x.1.1, .int .i64 x.1.2, .int .i64 x.2.1, .int .i64 x.2.2] 32))) := ⟨Nat.le_trans hnx.size (by simp), fun k hk => (Below.heap_alloc _ _ _ (by have := unhide HBL k hk; have := hnx.size; omega)).trans (hnx.block k hk)⟩
      have HF := hide (And.intro hl (And.intro hi hi1e))
      rw [hi, hm]
      clear hl hj hi hnx hx hcc hi1e hil _hcap hlen hm hao
      gi_wp2
      refine ⟨fun h => (by cases h), hR.mono ?_⟩
      rintro e W3 (⟨rfl, hJ3, hk3⟩ | ⟨rfl, hJx3⟩)
      · have HJ3 := hide (And.intro hJ3 hk3)
        clear hJ3 hk3 q0 q1 q2 q3
        gi_wp2
        go_roundw
        case rel =>
          obtain ⟨hl, hi, hi1e⟩ := unhide HF
          exact ⟨pre ++ [x], r, by rw [hl]; simp, by rw [List.length_append, hi]; simp only [List.length_singleton]; rw [hi1e], (unhide HJ3).1, (unhide HK).trans (unhide HJ3).2⟩
        case measure => simpa [intOf] using hms
      · gi_wp2
        refine bodyPost_ret (results_none rfl _ _ _) rfl ?_
        exact ⟨⟨_, rfl⟩, .inr ⟨_, hJx3⟩⟩

end Go.Proofs.YtdcmkapfcmibeaaDoor
