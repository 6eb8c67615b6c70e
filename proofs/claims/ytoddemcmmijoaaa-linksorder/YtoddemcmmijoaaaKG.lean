/- Several texts as one. -/
import Derived.Test.YtoddemcmmijoaaaLT
import Derived.Test.YtoddemcmmijoaaaKF
import Derived.Shelf.Abstract
import Derived.OwnWalkIn
import Derived.TacticsInMore
import Derived.LoopNIn
import Derived.LoopIn
import Derived.Stop.RegionWithIn

/- Links: pairs, and what it hands out. -/
namespace Go.Proofs.Ytoddemcmmijoaaa
open Go.RowKit Go.Shelf
attribute [local go_sem] Oper.semAt_some

/-- The pairs from f, to those below k. -/
def rowU (f : Nat) : Nat → List (Nat × Nat)
  | 0 => []
  | k + 1 => rowU f k ++ if k = f then [] else [(f, k)]
/-- The pairs of n replicas from those below i. -/
def posU (n : Nat) : Nat → List (Nat × Nat)
  | 0 => []
  | i + 1 => posU n i ++ rowU i n
theorem rowU_skip {f : Nat} : rowU f (f + 1) = rowU f f := by simp [rowU]
theorem rowU_next {f k : Nat} (h : k ≠ f) : rowU f (k + 1) = rowU f k ++ [(f, k)] := by simp [rowU, h]
theorem rowU_prefix (f : Nat) {k n : Nat} (h : k ≤ n) : rowU f k <+: rowU f n := by
  induction n with
  | zero => obtain rfl : k = 0 := by omega
            exact List.prefix_refl _
  | succ n ih =>
    by_cases c : k = n + 1
    · subst c; exact List.prefix_refl _
    · exact (ih (by omega)).trans (List.prefix_append _ _)
theorem posU_prefix (n : Nat) {i m : Nat} (h : i ≤ m) : posU n i <+: posU n m := by
  induction m with
  | zero => obtain rfl : i = 0 := by omega
            exact List.prefix_refl _
  | succ m ih =>
    by_cases c : i = m + 1
    · subst c; exact List.prefix_refl _
    · exact (ih (by omega)).trans (List.prefix_append _ _)
theorem pos_prefix {n i k : Nat} (hi : i < n) (hk : k ≤ n) : posU n i ++ rowU i k <+: posU n n :=
  ((List.prefix_append_right_inj _).2 (rowU_prefix i hk)).trans (posU_prefix n (i := i + 1) hi)
def encP (x : Nat × Nat) : Array Value := #[keyV x.1 x.2]
def KQ (q : Nat) : Nat → Prop := fun k => k = q

set_option maxRecDepth 100000 in
set_option maxHeartbeats 2000000 in
theorem pairs1_in (n l q N m : Nat) (h5 : m ≤ 5) (J : List (Nat × Nat) → World → Prop)
    (hY : ∀ pre x W, J pre W → (pre ++ [x]) <+: posU m m → YieldAt Fence.wide (n - 1) Try.prog l (encP x) W fun e W' => e = .returned (.bool true) ∧ J (pre ++ [x]) W' ∧ Kd (KQ q) N W W')
    (W : World) (hq : W.cell? ⟨q, 0, none⟩ = some (.int .i64 m)) (hj0 : J [] W) :
    CallsIn Fence.wide n Try.prog 25 #[.func (.yield l) #[] #[], .pointer (some ⟨q, 0, none⟩)] W fun e W' => (∃ v, e = .returned v) ∧ ∃ xs, xs = posU m m ∧ J xs W' := by
  refine callsIn_of_wp Try.func25 rfl trivial ?_ rfl
  simp only [Try.ntmps25, List.size_toArray, List.length_cons, List.length_nil, Nat.reduceAdd, Nat.reduceSub, Array.replicate_succ, Array.replicate_zero, List.push_toArray, List.append_toArray, List.nil_append, List.cons_append]
  have HY := hide hY
  have HQ : Hid (∀ x, Kd (KQ q) N W x → x.cell? ⟨q, 0, none⟩ = some (.int .i64 m)) := fun x hx => (World.cell?_of_block (w := W) (a := ⟨q, 0, none⟩) (hx.one q rfl)).trans hq
  clear hY
  gi_wp2
  gi_loopw [6] (fun i wr => ∃ k : Nat, k ≤ m ∧ i = .int .i64 k ∧ J (posU m k) wr ∧ Kd (KQ q) N W wr)
    (fun i _ => m - (intOf i).toNat)
  case atStart => exact ⟨0, Nat.zero_le _, rfl, hj0, Kd.refl _ _ _⟩
  case round =>
    obtain ⟨i, hi, rfl, hJs, hnx⟩ := hrel
    have HJ := hide hJs
    have HB := hide hnx
    have hq1 := unhide HQ wr hnx
    clear hJs hnx
    by_cases hlt : i < m
    · have hdb : decide ((i : Int) < m) = true := by simp; omega
      gi_wp2
      gi_loopw [10] (fun j wr => ∃ k : Nat, k ≤ m ∧ j = .int .i64 k ∧ J (posU m i ++ rowU i k) wr ∧ Kd (KQ q) N W wr)
        (fun j _ => m - (intOf j).toNat)
      case atStart => exact ⟨0, Nat.zero_le _, rfl, by simpa [rowU] using unhide HJ, unhide HB⟩
      case round =>
        obtain ⟨k, hk, rfl, hJ2, hn2⟩ := hrel
        have HJ2 := hide hJ2
        have HB2 := hide hn2
        clear hJ2 hn2 HJ HB hq1
        by_cases hlk : k < m
        · have hdk : decide ((k : Int) < m) = true := by simp; omega
          by_cases hs : k = i
          · subst hs
            gi_wp2
            refine ⟨fun _ h => (by cases h), ?_⟩
            gi_wp2
            go_roundw
            case rel => first | exact ⟨k + 1, by omega, by simp, by rw [rowU_skip]; exact unhide HJ2, unhide HB2⟩ | ((repeat apply Exists.intro); exact ⟨⟨k + 1, by omega, by simp, by rw [rowU_skip]; exact unhide HJ2, unhide HB2⟩, rfl⟩)
            case measure => simp [intOf]; omega
          · have hne : ((i : Int) != (k : Int)) = true := by simp; omega
            obtain ⟨fn, tmps, assign, body, hy, hRR⟩ := unhide HY _ (i, k) wr (unhide HJ2) (by rw [List.append_assoc, ← rowU_next hs]; exact pos_prefix hlt (by omega))
            unfold encP keyV at hy
            gi_wp2
            refine ⟨fun h => (by cases h), hRR.mono ?_⟩
            rintro e W3 ⟨rfl, hJ3, hk3⟩
            have HJ3 : Hid (J (posU m i ++ rowU i (k + 1)) W3) := by rw [rowU_next hs, ← List.append_assoc]; exact hJ3
            have HB3 : Hid (Kd (KQ q) N W W3) := (unhide HB2).trans hk3
            clear hJ3 hk3
            gi_wp2
            go_roundw
            case rel => first | exact ⟨k + 1, by omega, by simp, unhide HJ3, unhide HB3⟩ | ((repeat apply Exists.intro); exact ⟨⟨k + 1, by omega, by simp, unhide HJ3, unhide HB3⟩, rfl⟩)
            case measure => simp [intOf]; omega
        · obtain rfl : k = m := by omega
          have HJ4 : Hid (J (posU k (i + 1)) wr) := unhide HJ2
          gi_wp2
          go_roundw
          case rel => first | exact ⟨i + 1, by omega, by simp, unhide HJ4, unhide HB2⟩ | ((repeat apply Exists.intro); exact ⟨⟨i + 1, by omega, by simp, unhide HJ4, unhide HB2⟩, rfl⟩)
          case measure => simp [intOf]; omega
    · obtain rfl : i = m := by omega
      gi_wp2
      go_end0
      exact ⟨⟨_, rfl⟩, _, rfl, unhide HJ⟩

theorem pairs_deep (n q m : Nat) (h5 : m ≤ 5) (w : World) (hq : w.cell? ⟨q, 0, none⟩ = some (.int .i64 m)) :
    SeqDeep Fence.wide n Try.prog 25 #[.pointer (some ⟨q, 0, none⟩)] encP (fun pre x => (pre ++ [x]) <+: posU m m) (Kd (KQ q)) (fun xs => xs = posU m m) w := fun l J W hW _ hY hj0 =>
  pairs1_in n l q _ m h5 J hY W ((hW.cell (p := ⟨q, 0, none⟩) (World.block_lt_of_cell? w _ hq)).trans hq) hj0

set_option maxHeartbeats 400000 in
theorem pairs_any (m : Nat) (w : World) :
    Calls Try.prog 9 #[.int .i64 m] w fun e w' => e = .returned (.func (.func 25) #[] #[.pointer (some ⟨w.heap.size, 0, none⟩)]) ∧ w' = w.alloc (.cells #[.int .i64 m] 3) := by
  go_enter Try.func9, Try.ntmps9
  go_wp2
  go_ret
  exact ⟨rfl, rfl⟩
end Go.Proofs.Ytoddemcmmijoaaa

/- Links: New. -/
namespace Go.Proofs.Ytoddemcmmijoaaa
open Go.RowKit Go.Shelf
open Go.ChangeMaps (setBlock heap_setBlock_same heap_setBlock_other)
attribute [local go_sem] Oper.semAt_some
set_option maxRecDepth 100000

theorem grownBy_drew (A : World) : A.grownBy A.drew none := ⟨rfl, rfl, rfl, Nat.le_refl _, fun _ _ _ => rfl⟩
theorem OwnFrom.drew {β : Type} {N : Nat} {I : β → World → Prop} (h : OwnFrom N I) {s : β} {A : World} (hs : I s A) : I s A.drew := h s A _ none hs (grownBy_drew A) (fun r e => by cases e)
theorem OwnFrom.more {β : Type} {N M : Nat} {I : β → World → Prop} (h : OwnFrom N I) (hN : N ≤ M) : OwnFrom M I := fun s A B row hs hg hr => h s A B row hs hg (fun r e => ⟨by have := (hr r e).1; omega, (hr r e).2⟩)
theorem ownFrom_block {β : Type} (N k : Nat) (o : Option Obj) (hk : k < N) (ho : o ≠ none) : OwnFrom N (fun (_ : β) (W : World) => W.heap[k]? = o) := fun s A B row hs hg hr => by
  cases o with
  | none => exact absurd rfl ho
  | some o => exact (hg.block k (Array.getElem?_eq_some_iff.1 hs).1 (fun e => by have := (hr k e.symm).1; omega)).trans hs
theorem ownFrom_size {β : Type} (N k : Nat) : OwnFrom N (fun (_ : β) (W : World) => k ≤ W.heap.size) := fun _ _ _ _ hs hg _ => Nat.le_trans hs hg.size
theorem ownFrom_cell {β : Type} (N : Nat) (p : Addr) (v : Value) : OwnFrom N (fun (_ : β) (W : World) => W.cell? p = some v) := fun _ _ _ _ hs hg hr => cell_kept hs hg (fun r e => (hr r e).2)

theorem four_new (w : World) (o0 o1 o2 o3 : Obj) : ((((w.alloc o0).alloc o1).alloc o2).alloc o3).heap[w.heap.size]? = some o0 ∧ ((((w.alloc o0).alloc o1).alloc o2).alloc o3).heap[w.heap.size + 1]? = some o1 ∧ ((((w.alloc o0).alloc o1).alloc o2).alloc o3).heap[w.heap.size + 2]? = some o2 ∧ ((((w.alloc o0).alloc o1).alloc o2).alloc o3).heap[w.heap.size + 3]? = some o3 := by
  have e1 : (w.alloc o0).heap.size = w.heap.size + 1 := by simp
  have e2 : ((w.alloc o0).alloc o1).heap.size = w.heap.size + 2 := by simp
  have e3 : (((w.alloc o0).alloc o1).alloc o2).heap.size = w.heap.size + 3 := by simp
  have n1 := heap_alloc_new (w.alloc o0) o1
  have n2 := heap_alloc_new ((w.alloc o0).alloc o1) o2
  have n3 := heap_alloc_new (((w.alloc o0).alloc o1).alloc o2) o3
  rw [e1] at n1
  rw [e2] at n2
  rw [e3] at n3
  refine ⟨?_, ?_, ?_, n3⟩
  · exact (heap_alloc_old _ _ _ (by omega)).trans ((heap_alloc_old _ _ _ (by omega)).trans ((heap_alloc_old _ _ _ (by omega)).trans (heap_alloc_new w _)))
  · exact (heap_alloc_old _ _ _ (by omega)).trans ((heap_alloc_old _ _ _ (by omega)).trans n1)
  · exact (heap_alloc_old _ _ _ (by omega)).trans n2
theorem rowU_mem {f k : Nat} {x : Nat × Nat} (h : x ∈ rowU f k) : x.1 = f ∧ x.2 < k ∧ x.2 ≠ f := by
  induction k with
  | zero => cases h
  | succ k ih =>
    rw [rowU, List.mem_append] at h
    rcases h with h | h
    · have := ih h; exact ⟨this.1, by omega, this.2.2⟩
    · split at h
      · cases h
      · rename_i c; simp at h; subst h; exact ⟨rfl, by simp, c⟩
theorem posU_mem {n i : Nat} {x : Nat × Nat} (h : x ∈ posU n i) : x.1 < i ∧ x.2 < n ∧ x.2 ≠ x.1 := by
  induction i with
  | zero => cases h
  | succ i ih =>
    rw [posU, List.mem_append] at h
    rcases h with h | h
    · have := ih h; exact ⟨by omega, this.2⟩
    · have := rowU_mem h; exact ⟨by omega, this.2.1, by rw [this.1]; exact this.2.2⟩
theorem posU_nodup {m : Nat} (h : m ≤ 5) : (posU m m).Nodup := by
  have : m = 0 ∨ m = 1 ∨ m = 2 ∨ m = 3 ∨ m = 4 ∨ m = 5 := by omega
  rcases this with rfl | rfl | rfl | rfl | rfl | rfl <;> decide
/-- Links while they are made: pairs with their pipes' blocks. -/
structure NI (base : Nat) (W : World) (P mb : Nat) (l : List (Nat × Nat × Nat)) : Prop where
  box : W.heap[P]? = some (.cells #[.map (some mb)] 46)
  map : ∃ es clock, W.heap[mb]? = some (.map es clock) ∧ es.toList.map (fun e => (e.key, e.val)) = (l.map fun q => (keyV q.1 q.2.1, .pointer (some ⟨q.2.2, 0, none⟩))) ∧ Born es clock
  pipe : ∀ q ∈ l, base ≤ q.2.2 ∧ W.heap[q.2.2]? = some (.cells #[.bool false, .slice none 0 0] 52)
  apart : l.Pairwise fun a b => a.2.2 ≠ b.2.2
  small : ∀ q ∈ l, q.1 < 5 ∧ q.2.1 < 5
theorem NI.keep {base : Nat} {W W' : World} {P mb : Nat} {l : List (Nat × Nat × Nat)} (h : NI base W P mb l) (hk : ∀ k, k = P ∨ k = mb ∨ (∃ q ∈ l, k = q.2.2) → W'.heap[k]? = W.heap[k]?) : NI base W' P mb l := by
  obtain ⟨es, c, h1, h2⟩ := h.map
  exact ⟨(hk P (.inl rfl)).trans h.box, ⟨es, c, (hk mb (.inr (.inl rfl))).trans h1, h2⟩, fun q hq => ⟨(h.pipe q hq).1, (hk _ (.inr (.inr ⟨q, hq, rfl⟩))).trans (h.pipe q hq).2⟩, h.apart, h.small⟩
theorem NI.lt {base : Nat} {W : World} {P mb : Nat} {l : List (Nat × Nat × Nat)} (h : NI base W P mb l) : ∀ k, k = P ∨ k = mb ∨ (∃ q ∈ l, k = q.2.2) → k < W.heap.size := by
  rintro k (rfl | rfl | ⟨q, hq, rfl⟩)
  · exact (Array.getElem?_eq_some_iff.1 h.box).1
  · obtain ⟨es, c, h1, _⟩ := h.map
    exact (Array.getElem?_eq_some_iff.1 h1).1
  · exact (Array.getElem?_eq_some_iff.1 (h.pipe q hq).2).1
theorem ownFrom_NI {β : Type} {N base P mb : Nat} (f : β → List (Nat × Nat × Nat) → Prop) (hm : mb < N) : OwnFrom N (fun (s : β) (W : World) => ∃ l, f s l ∧ NI base W P mb l) := fun s A B row hs hg hr => by
  obtain ⟨l, hl, h⟩ := hs
  refine ⟨l, hl, h.keep fun k hk => hg.block k (h.lt k hk) fun e => ?_⟩
  obtain ⟨h1, o, h2, h3⟩ := hr k e.symm
  rcases hk with rfl | rfl | ⟨q, hq, rfl⟩
  · rw [h.box] at h2
    cases h2
    cases h3
  · omega
  · rw [(h.pipe q hq).2] at h2
    cases h2
    cases h3
/-- A pair more. -/
theorem NI.put {base : Nat} {W : World} {P mb : Nat} {l : List (Nat × Nat × Nat)} (h : NI base W P mb l) {f t g : Nat} (hf : f < 5) (ht : t < 5) (hnew : ∀ q ∈ l, ¬ (q.1 = f ∧ q.2.1 = t)) (hg : W.heap[g]? = some (.cells #[.bool false, .slice none 0 0] 52)) (hb : base ≤ g) (hgn : ∀ q ∈ l, q.2.2 ≠ g) :
    ∃ o', (Instr.mapUpdate 44 (.map (some mb)) (keyV f t) (.pointer (some ⟨g, 0, none⟩))).run Try.prog W = .ok () (setBlock W mb o') ∧ NI base (setBlock W mb o') P mb (l ++ [(f, t, g)]) ∧ ∃ es c, W.heap[mb]? = some (.map es c) := by
  obtain ⟨es, clock, hm, hes, hbn⟩ := h.map
  have hwf : ∀ a : Nat, a < 5 → (Lit.int .i64 (a : Int)).wf = true := fun a ha => wf64 (by omega)
  obtain ⟨s, hs⟩ := keyOf_way (hwf f hf) (hwf t ht)
  have hent : ∀ e ∈ es.toList, ∃ q ∈ l, e.key = keyV q.1 q.2.1 := fun e he => by
    have : (e.key, e.val) ∈ es.toList.map (fun e => (e.key, e.val)) := List.mem_map.2 ⟨e, he, rfl⟩
    rw [hes] at this
    obtain ⟨q, hq, e1⟩ := List.mem_map.1 this
    simp only [Prod.mk.injEq] at e1
    exact ⟨q, hq, e1.1.symm⟩
  have hall : ∀ e ∈ es.toList, ∃ k, keyOf Try.prog 24 e.key = some k := fun e he => by
    obtain ⟨q, hq, e1⟩ := hent e he
    rw [e1]
    exact keyOf_way (hwf _ (h.small q hq).1) (hwf _ (h.small q hq).2)
  rcases way_law.find W hs es.toList hall with ⟨h1, h2⟩ | ⟨j, e0, h1, h2, h3⟩
  · refine ⟨.map (es.push ⟨keyV f t, .pointer (some ⟨g, 0, none⟩), clock⟩) (clock + 1), ?_, ?_, es, clock, hm⟩
    · simp [Instr.mapUpdate, run_underlying Try.underlying44, MapKept.run_getObj_map hm, way_law.check W false hs, h1, MapKept.run_setObj_map _ hm, Result.andThen, setBlock]
    · have hne : ∀ k, k ≠ mb → (setBlock W mb (.map (es.push ⟨keyV f t, .pointer (some ⟨g, 0, none⟩), clock⟩) (clock + 1))).heap[k]? = W.heap[k]? := fun k hk => heap_setBlock_other hm _ hk
      have hP : P ≠ mb := fun e => by have := h.box; rw [e, hm] at this; cases this
      have hgm : g ≠ mb := fun e => by rw [e, hm] at hg; cases hg
      refine ⟨(hne P hP).trans h.box, ⟨_, _, heap_setBlock_same hm _, ?_, ?_⟩, fun q hq => ?_, ?_, fun q hq => ?_⟩
      · rw [Array.toList_push, List.map_append, hes, List.map_append]
        rfl
      · refine ⟨?_, fun e he => ?_⟩
        · rw [Array.toList_push, List.map_append, List.nodup_append]
          refine ⟨hbn.1, by simp, fun a ha b hb' => ?_⟩
          obtain ⟨e, he, rfl⟩ := List.mem_map.1 ha
          simp only [List.map_cons, List.map_nil, List.mem_singleton] at hb'
          have := hbn.2 e he
          omega
        · rw [Array.toList_push, List.mem_append] at he
          rcases he with he | he
          · have := hbn.2 e he; omega
          · rw [List.mem_singleton] at he; subst he; exact Nat.lt_succ_self _
      · rcases List.mem_append.1 hq with hq | hq
        · have := h.pipe q hq
          exact ⟨this.1, (hne _ (fun e => by rw [e, hm] at this; cases this.2)).trans this.2⟩
        · rw [List.mem_singleton] at hq
          subst hq
          exact ⟨hb, (hne g hgm).trans hg⟩
      · refine List.pairwise_append.2 ⟨h.apart, by simp, fun a ha b hb' => ?_⟩
        rw [List.mem_singleton] at hb'
        subst hb'
        exact hgn a ha
      · rcases List.mem_append.1 hq with hq | hq
        · exact h.small q hq
        · rw [List.mem_singleton] at hq
          subst hq
          exact ⟨hf, ht⟩
  · obtain ⟨q, hq, e1⟩ := hent e0 (List.mem_of_getElem? h2)
    have e2 := keyV_inj (e1.symm.trans h3)
    exact absurd ⟨by omega, by omega⟩ (hnew q hq)
/-- .. and once they are made. -/
theorem NI.made {base : Nat} {W : World} {P mb : Nat} {l : List (Nat × Nat × Nat)} (h : NI base W P mb l) (hP : base ≤ P) (hmb : base ≤ mb) (hnd : l.Pairwise fun a b => ¬ (a.1 = b.1 ∧ a.2.1 = b.2.1)) :
    LInv base W P mb (l.map fun q => ⟨q.1, q.2.1, q.2.2, .slice none 0 0, [], false⟩) := by
  obtain ⟨es, c, h1, h2⟩ := h.map
  refine ⟨hP, h.box, ⟨hmb, es, c, h1, by rw [h2.1, List.map_map]; rfl, h2.2⟩, fun q hq => ?_, ?_, fun q hq => ?_⟩
  · obtain ⟨x, hx, rfl⟩ := List.mem_map.1 hq
    exact ⟨(h.pipe x hx).1, (h.pipe x hx).2, ⟨[], rfl, World.ownsRow_nil _ _ _ _, fun p hp => by cases hp⟩, by simp⟩
  · rw [List.pairwise_map]
    refine (h.apart.and hnd).imp fun {a b} hab => ⟨fun k hk hk' => ?_, fun e => hab.2 ⟨by have := e.1; simp only at this; omega, by have := e.2; simp only at this; omega⟩⟩
    simp only [PD.own, Value.ownBlock, reduceCtorEq, or_false] at hk hk'
    exact hab.1 (hk.symm.trans hk')
  · obtain ⟨x, hx, rfl⟩ := List.mem_map.1 hq
    have := h.small x hx
    simp only
    omega

set_option maxHeartbeats 4000000 in
theorem new_any (m : Nat) (h1 : 1 ≤ m) (h5 : m ≤ 5) (w : World) :
    Calls Try.prog 4 #[.int .i64 m] w fun e w' => ∃ (P mb : Nat) (l : List (Nat × Nat × Nat)), e = .returned (.tuple #[P0 P, .int .i64 0]) ∧ LInv w.heap.size w' P mb (l.map fun q => ⟨q.1, q.2.1, q.2.2, .slice none 0 0, [], false⟩) ∧ (l.map fun q => (q.1, q.2.1)) = posU m m ∧ Below w.heap.size w w' := by
  have hlo : decide ((m : Int) < 1) = false := decide_eq_false (by omega)
  have hhi : decide ((5 : Int) < (m : Int)) = false := decide_eq_false (by omega)
  refine (callsIn_wide (n := 3)).1 ?_
  refine callsIn_of_wp_marks Try.func4 rfl trivial ?_ rfl
  simp only [Try.ntmps4, List.size_toArray, List.length_cons, List.length_nil, Nat.reduceAdd, Nat.reduceSub, Array.replicate_succ, Array.replicate_zero, List.push_toArray, List.append_toArray, List.nil_append, List.cons_append]
  gi_wp2_with fail
  rename_i Kx hKx
  refine hKx _ (w.alloc (.map #[] 0)) ?_
  clear hKx
  gi_wp2_with fail
  refine ⟨trivial, ((callsIn_wide (n := 2)).2 (pairs_any m _)).mono ?_⟩
  rintro e W0 ⟨rfl, rfl⟩
  gi_wp2
  obtain ⟨W2, hW2⟩ : ∃ W2, (((w.alloc (.map #[] 0)).alloc (.cells #[.map (some w.heap.size)] 46)).alloc (.cells #[.pointer (some ⟨w.heap.size + 1, 0, none⟩)] 25)).alloc (.cells #[.int .i64 m] 3) = W2 := ⟨_, rfl⟩
  have hsz : W2.heap.size = w.heap.size + 4 := by rw [← hW2]; simp
  have hbW : Below w.heap.size w W2 := by rw [← hW2]; exact ((((Below.refl _ _).alloc (Nat.le_refl _) _).alloc (by simp) _).alloc (by simp; omega) _).alloc (by simp; omega) _
  obtain ⟨hmb, hP, hB4, hq⟩ := four_new w (.map #[] 0) (.cells #[.map (some w.heap.size)] 46) (.cells #[.pointer (some ⟨w.heap.size + 1, 0, none⟩)] 25) (.cells #[.int .i64 m] 3)
  rw [hW2] at hmb hP hB4 hq
  have hNI : NI w.heap.size W2 (w.heap.size + 1) w.heap.size [] := ⟨hP, ⟨#[], 0, hmb, rfl, by simp [Born]⟩, fun q hq => (by cases hq), List.Pairwise.nil, fun q hq => (by cases hq)⟩
  rw [hW2]
  clear hW2
  refine wpIn_range_deep rfl (by decide) (gf := 25) (lb := #[.pointer (some ⟨w.heap.size + 1 + 1 + 1, 0, none⟩)]) rfl trivial (enters_of Try.func25 (by kernel_rfl) rfl)
    (pairs_deep 2 (w.heap.size + 3) m h5 W2 (cell_of_heap' hq)) (fun k hk => by rw [show k = w.heap.size + 3 from hk]; omega) (Below.refl _ _) (fun _ => rfl)
    (fun pre A => (((∃ l : List (Nat × Nat × Nat), (l.map fun q => (q.1, q.2.1)) = pre ∧ NI w.heap.size A (w.heap.size + 1) w.heap.size l) ∧ A.cell? ⟨w.heap.size + 2, 0, none⟩ = some (P0 (w.heap.size + 1))) ∧ Below w.heap.size w A) ∧ W2.heap.size ≤ A.heap.size)
    (OwnFrom.and (OwnFrom.and (OwnFrom.and (ownFrom_NI (fun pre l => (l.map fun q : Nat × Nat × Nat => (q.1, q.2.1)) = pre) (by omega)) (ownFrom_cell _ _ _)) (ownFrom_below (Nat.le_refl _) (by omega))) (ownFrom_size _ _))
    ⟨⟨⟨⟨[], rfl, hNI⟩, cell_of_heap' hB4⟩, hbW⟩, Nat.le_refl _⟩
    (fun x A => A.alloc (.cells #[.int .i64 x.1, .int .i64 x.2] 24))
    (fun x q' => { tmps := #[.int .i64 m, undef, .pointer none, .int .i64 0, .pointer (some ⟨w.heap.size + 1 + 1, 0, none⟩), .pointer (some ⟨q', 0, none⟩), .int .i64 m, .bool false, .bool false, .int .i64 m, .bool false, .bool false, .map (some w.heap.size), .agg #[.map (some w.heap.size)], .pointer (some ⟨w.heap.size + 1, 0, none⟩), .int .i64 m, .func (.func 25) #[] #[.pointer (some ⟨w.heap.size + 1 + 1 + 1, 0, none⟩)], .agg #[.int .i64 x.1, .int .i64 x.2], undef, undef, undef, undef, undef, undef, undef, undef], defers := [] })
    (fun x q' pre A => (((((∃ l : List (Nat × Nat × Nat), (l.map fun q => (q.1, q.2.1)) = pre ∧ NI w.heap.size A (w.heap.size + 1) w.heap.size l) ∧ A.cell? ⟨w.heap.size + 2, 0, none⟩ = some (P0 (w.heap.size + 1))) ∧ Below w.heap.size w A) ∧ W2.heap.size ≤ A.heap.size) ∧ A.cell? ⟨q', 0, none⟩ = some (.int .i64 x.1)) ∧ A.cell? ⟨q', 1, none⟩ = some (.int .i64 x.2))
    (fun x q' => OwnFrom.and (OwnFrom.and (OwnFrom.and (OwnFrom.and (OwnFrom.and (ownFrom_NI (fun pre l => (l.map fun q : Nat × Nat × Nat => (q.1, q.2.1)) = pre) (by omega)) (ownFrom_cell _ _ _)) (ownFrom_below (Nat.le_refl _) (by omega))) (ownFrom_size _ _)) (ownFrom_cell _ _ _)) (ownFrom_cell _ _ _))
    (fun x A => (Below.refl _ _).alloc (Nat.le_refl _) _)
    ?assign ?hA ?body ?done
  case assign =>
    intro l' x A K hK
    unfold encP keyV
    gi_wp2
    exact hK
  case hA =>
    rintro pre x A ⟨⟨⟨⟨l, e1, e2⟩, e3⟩, e4⟩, e5⟩ _ hs
    have hbx := heap_alloc_new A (.cells #[.int .i64 x.1, .int .i64 x.2] 24)
    refine ⟨⟨⟨⟨⟨⟨l, e1, e2.keep fun k hk => heap_alloc_old A _ k (e2.lt k hk)⟩, ?_⟩, e4.alloc (by omega) _⟩, by simp; omega⟩, cell_of_heap' hbx⟩, cell_of_heap' hbx⟩
    rw [World.cell?_alloc_lt _ _ _ (World.block_lt_of_cell? A _ e3)]
    exact e3
  case body =>
    rintro l' pre x q' A ⟨⟨⟨⟨⟨⟨l, e1, e2⟩, e3⟩, e4⟩, e5⟩, e6⟩, e7⟩ hOk
    have hxm : x ∈ posU m m := hOk.subset (List.mem_append_right _ (List.mem_singleton.2 rfl))
    obtain ⟨hx1, hx2, _⟩ := posU_mem hxm
    have hnd : x ∉ pre := by
      have h := List.Nodup.sublist hOk.sublist (posU_nodup h5)
      rw [List.nodup_append] at h
      intro c
      exact h.2.2 x c x (List.mem_singleton.2 rfl) rfl
    have hN : NI w.heap.size (A.alloc (.cells #[.bool false, .slice none 0 0] 52)).drew (w.heap.size + 1) w.heap.size l := e2.keep fun k hk => heap_alloc_old A _ k (e2.lt k hk)
    obtain ⟨o', hrun, hN', es, c, hm⟩ := hN.put (f := x.1) (t := x.2) (g := A.heap.size) (by omega) (by omega) (fun r hr c => hnd (by rw [← e1]; exact List.mem_map.2 ⟨r, hr, Prod.ext c.1 c.2⟩)) (heap_alloc_new A _) (by omega) (fun r hr c => by have := e2.lt _ (.inr (.inr ⟨r, hr, rfl⟩)); omega)
    unfold keyV at hrun
    have cP : A.cell? ⟨w.heap.size + 1, 0, none⟩ = some (.map (some w.heap.size)) := cell_of_heap' e2.box
    have HI : Hid ((∃ l : List (Nat × Nat × Nat), (l.map fun q => (q.1, q.2.1)) = pre ++ [x] ∧ NI w.heap.size (setBlock (A.alloc (.cells #[.bool false, .slice none 0 0] 52)).drew w.heap.size o') (w.heap.size + 1) w.heap.size l)) := ⟨l ++ [(x.1, x.2, A.heap.size)], by rw [List.map_append, e1]; rfl, hN'⟩
    have HM := hide hm
    have HE := hide (And.intro e4 e5)
    have al : ∀ {p : Addr} {u : Value}, A.cell? p = some u → (A.alloc (.cells #[.bool false, .slice none 0 0] 52)).cell? p = some u := fun h => (World.cell?_alloc_lt _ _ _ (World.block_lt_of_cell? A _ h)).trans h
    have e3a := al e3
    have e6a := al e6
    have e7a := al e7
    have cPa := al cP
    clear al
    obtain ⟨Y, hY⟩ : ∃ Y, setBlock (A.alloc (.cells #[.bool false, .slice none 0 0] 52)).drew w.heap.size o' = Y := ⟨_, rfl⟩
    have hYo : ∀ k, k ≠ w.heap.size → k < A.heap.size → Y.heap[k]? = A.heap[k]? := fun k hk hl => by
      rw [← hY]
      exact (heap_setBlock_other hm _ hk).trans (heap_alloc_old A _ k hl)
    have hYs : A.heap.size + 1 = Y.heap.size := by rw [← hY]; simp [setBlock]
    have hKd : Kd (KQ (w.heap.size + 3)) W2.heap.size A Y := ⟨by omega, fun k hk => hYo k (by rw [show k = w.heap.size + 3 from hk]; omega) (by rw [show k = w.heap.size + 3 from hk]; omega), fun k h1 h2 => hYo k (by omega) h2⟩
    have hYb : Below w.heap.size w Y := e4.trans (by
      refine ⟨by rw [← hY]; rfl, by rw [← hY]; rfl, by rw [← hY]; rfl, by omega, fun k hk => hYo k (by omega) (by omega)⟩)
    rw [hY] at HI hrun
    have HFIN : Hid (KeepsFrom W2.heap.size A Y ∧ Kd (KQ (w.heap.size + 3)) (W2.heap.size + 2) A Y ∧ (((∃ l : List (Nat × Nat × Nat), (l.map fun q => (q.1, q.2.1)) = pre ++ [x] ∧ NI w.heap.size Y (w.heap.size + 1) w.heap.size l) ∧ Y.cell? ⟨w.heap.size + 2, 0, none⟩ = some (P0 (w.heap.size + 1))) ∧ Below w.heap.size w Y) ∧ W2.heap.size ≤ Y.heap.size) :=
      ⟨hKd.keeps (Nat.le_refl _), ⟨hKd.size, hKd.one, fun k h1 h2 => hKd.up k (by omega) h2⟩, ⟨⟨unhide HI, (World.cell?_of_block (w := A) (a := ⟨w.heap.size + 2, 0, none⟩) (hYo (w.heap.size + 2) (by omega) (by omega))).trans e3⟩, hYb⟩, by omega⟩
    clear e1 e2 hN hN' hm hOk hxm hnd hNI e4 e5 HI HM HE hY hYo hYs hKd hYb
    obtain ⟨x1, x2⟩ := x
    gi_wp2
    gi_region_with fail
    all_goals
      gi_wp2
      exact unhide HFIN
  case done =>
    rintro D xs A hD rfl ⟨⟨⟨e1, e3⟩, e4⟩, e5⟩ hK
    have HR : Hid (∀ o', (∃ l : List (Nat × Nat × Nat), (l.map fun q => (q.1, q.2.1)) = posU m m ∧ NI w.heap.size (A.putObj D o') (w.heap.size + 1) w.heap.size l) ∧ Below w.heap.size w (A.putObj D o')) := fun o' =>
      ⟨(ownFrom_NI (fun pre l => (l.map fun q : Nat × Nat × Nat => (q.1, q.2.1)) = pre) (show w.heap.size < W2.heap.size by omega)).putObj o' e1 hD hK rfl, (ownFrom_below (β := Unit) (Nat.le_refl _) (show w.heap.size ≤ W2.heap.size by omega)).putObj (s := ()) o' e4 hD hK rfl⟩
    have HK := hide hK
    clear e1 e4 e5 hK hNI
    gi_wp2
    refine ⟨by simp, .inl ⟨_, _, rfl, run_takeDeferred (unhide HK), ?_⟩⟩
    refine ⟨.tuple #[P0 (w.heap.size + 1), .int .i64 0], ?_, ?_⟩
    · simp [results, Try.results4, go_sem]
    · obtain ⟨⟨l, e1, e2⟩, e4⟩ := unhide HR (.deferred none)
      refine ⟨_, _, l, rfl, e2.made (by omega) (Nat.le_refl _) ?_, e1, e4⟩
      have hnd := posU_nodup h5
      rw [← e1, List.nodup_iff_pairwise_ne, List.pairwise_map] at hnd
      exact hnd.imp fun {a b} h c => h (Prod.ext c.1 c.2)
end Go.Proofs.Ytoddemcmmijoaaa
