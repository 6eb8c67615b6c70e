/- All, Keys and told of what tells nothing. -/
import Derived.Test.YteenbebpdibbcaaE3
import Derived.Test.YteenbebpdibbcaaSH
namespace Go.Proofs.Yteenbebpdibbcaa
open Go.RowKit Go.Shelf
attribute [local go_sem] Oper.semAt_some
set_option maxRecDepth 100000

theorem vals_seq (n bx : Nat) (encs : Empty → Array Value) (Ok : List Empty → Empty → Prop) (Kp : World → World → Prop) (w : World) (hc : w.cell? ⟨bx, 0, none⟩ = some (.slice none 0 0)) : SeqOk Fence.wide n Try.prog 79 #[PN bx] encs Ok Kp (fun xs => xs = []) w := fun l J Jx W hW hJ _ hj0 => by
  have c0 : W.cell? ⟨bx, 0, none⟩ = some (.slice none 0 0) := below_rd hW hc
  refine callsIn_of_wp Try.func79 rfl trivial ?_ rfl
  simp only [Try.ntmps79, List.size_toArray, List.length_cons, List.length_nil, Nat.reduceAdd, Nat.reduceSub, Array.replicate_succ, Array.replicate_zero, List.push_toArray, List.append_toArray, List.nil_append, List.cons_append]
  have HJ := hide hj0
  clear hj0 hJ
  gi_wp2
  gi_loopw [7] (fun i wr => i = .int .i64 0 ∧ J [] wr) (fun _ _ => 0)
  case atStart => exact ⟨rfl, unhide HJ⟩
  case round =>
    obtain ⟨rfl, hj⟩ := hrel
    gi_wp2
    go_end0
    exact ⟨⟨_, rfl⟩, .inl ⟨_, rfl, hj⟩⟩
def kTrue (_ _ : World) : Prop := True
def encE (_ : Empty) : Array Value := #[undef]
section
variable {F : Fence} {n : Nat} {P : Program} {g : Operand} {ps : Array Tmp} {assign body : Code} {Q : Exit → Act → World → Prop} {a : Act} {w : World}
/-- A range over what tells nothing. -/
theorem range_none (hro : F.round = none) (h1 : 1 ≤ n) {gf : Nat} {lb : Array Value} (hg : a.eval g = .func (.func gf) #[] lb) (hFg : F.fn gf) (eg : ∀ args w, (callFunc gf args).run P w = .ok (.enter gf args) w)
    {Ok : List Empty → Empty → Prop} {w0 : World} (hseq : SeqOk F (n - 1) P gf lb encE Ok kTrue (fun xs => xs = []) w0) (hb0 : Below w0.heap.size w0 w)
    (I : World → Prop) (hI : OwnFrom w.heap.size (fun (_ : List Empty) W => I W)) (h0 : I w)
    (hdone : ∀ (D : Nat) (W : World), w.heap.size ≤ D → I W → W.heap[D]? = some (.deferred (some [])) → Q .normal { a with defers := { target := .collected D, args := #[] } :: a.defers } W) :
    (Code.rangeFunc g ps assign body).wpIn F n P Q a w :=
  wpIn_range_ok hro h1 hg hFg eg hseq (fun _ _ => trivial) (fun _ _ _ _ _ => trivial) hb0 (fun x => x.elim) (fun _ W => I W) (fun _ _ _ => False) hI (fun _ => ownFrom_pure _ _) h0 (fun x => x.elim) (fun _ x => x.elim) (fun _ _ x => x.elim) (fun D _ W hD _ hi hd => hdone D W hD hi hd) (fun _ _ _ _ _ hx _ => hx.elim)
end
set_option maxHeartbeats 1000000 in
theorem all_no {w : World} {v : Value} (h : IsNo w v) : Calls Try.prog 20 #[v] w fun e w' => ∃ bx, e = .returned (.func (.func 79) #[] #[PN bx]) ∧ w'.cell? ⟨bx, 0, none⟩ = some (.slice none 0 0) ∧ Below w.heap.size w w' := by
  obtain ⟨n0, hn0⟩ : ∃ x, w.heap.size = x := ⟨_, rfl⟩
  obtain ⟨W1, hW1⟩ : ∃ W, w.alloc (.cells #[.slice none 0 0] 39) = W := ⟨_, rfl⟩
  have hb : Below n0 w W1 := by rw [← hW1, ← hn0]; exact below_box _
  have k0 : W1.heap[n0]? = some (.cells #[.slice none 0 0] 39) := by rw [← hW1, ← hn0]; exact heap_alloc_new w _
  have HA := hide (all0_no (h.below (hn0 ▸ hb)))
  rw [hn0]
  refine (callsIn_wide (n := 3)).1 ?_
  refine callsIn_of_wp_marks Try.func20 rfl trivial ?_ rfl
  simp only [Try.ntmps20, List.size_toArray, List.length_cons, List.length_nil, Nat.reduceAdd, Nat.reduceSub, Array.replicate_succ, Array.replicate_zero, List.push_toArray, List.append_toArray, List.nil_append, List.cons_append]
  have HK := hide (And.intro k0 hb)
  clear k0 hb h
  gi_wp2_with fail
  try rw [hn0]
  try rw [hW1]
  refine ⟨trivial, ((callsIn_wide).2 (unhide HA)).mono ?_⟩
  rintro e W2 ⟨rfl, hb2⟩
  obtain ⟨k0, hb⟩ := unhide HK
  have hs1 : n0 < W1.heap.size := lt_of k0
  have k2 : W2.heap[n0]? = some (.cells #[.slice none 0 0] 39) := (hb2.block n0 hs1).trans k0
  have hbw : Below n0 w W2 := hb.trans (hb2.mono (by omega))
  gi_wp2_with fail
  refine range_none rfl (by decide) (gf := 72) (lb := #[]) rfl trivial (enters_of Try.func72 (by kernel_rfl) rfl) (Ok := fun _ _ => False) (none_seq (3 - 1) encE (fun _ _ => False) kTrue W2) (Below.refl _ _)
    (fun W => W.heap[n0]? = some (.cells #[.slice none 0 0] 39) ∧ Below n0 w W) (OwnFrom.and (ownFrom_blk _ _ (fun _ => .cells #[.slice none 0 0] 39) (by have := hb2.size; omega)) (ownFrom_below (by have := hb2.size; omega) (by have := hb2.size; omega))) ⟨k2, hbw⟩ fun D W hD ⟨hk, hB⟩ hK => ?_
  have c0 : W.cell? ⟨n0, 0, none⟩ = some (.slice none 0 0) := cell_at hk
  have HM : Hid (Marks [{ target := .collected D, args := #[] }] W) := (Marks.nil W).cons hK (fun c => by cases c)
  have HB := hide hB
  have hD2 : n0 < D := by have := hb2.size; omega
  have HV := hide (values_any W)
  clear hK hk hB k0 k2 hbw hb2 hb HK
  gi_wp2_with fail
  refine ⟨trivial, ((callsIn_wide).2 (unhide HV)).mono ?_⟩
  rintro e W3 ⟨rfl, rfl⟩
  gi_wp2
  have hMk : Marks [{ target := .collected D, args := #[] }] (W.alloc (.cells #[.slice none 0 0] 39)) := (unhide HM).keep fun k hk => Below.heap_alloc _ _ _ ((unhide HM).lt hk)
  refine leave_marks (w := W.alloc (.cells #[.slice none 0 0] 39)) hMk fun w' hw => ?_
  have hdm : ∀ k, isMark [{ target := .collected D, args := #[] }] k → k = D := fun k c => by
    rcases List.mem_cons.1 c with e | e
    · simp only [Deferred.mk.injEq, Target.collected.injEq, and_true] at e; exact e
    · cases e
  have hDlt : D < W.heap.size := (unhide HM).lt (k := D) (by simp [isMark])
  have hc9 : w'.cell? ⟨W.heap.size, 0, none⟩ = some (.slice none 0 0) := cell_at ((hw.block W.heap.size (by simp) fun c => by have := hdm _ c; omega).trans (heap_alloc_new W _))
  have hBW := unhide HB
  have hWs := hBW.size
  refine ⟨_, by simp [results, Try.results20, go_sem], W.heap.size, rfl, hc9, ?_⟩
  exact (hBW.trans ((below_box (.cells #[.slice none 0 0] 39)).mono (by omega))).trans ⟨hw.os, hw.tape, hw.output, hw.size, fun k hk => hw.block k (by simp; omega) fun c => by have := hdm k c; omega⟩
set_option maxHeartbeats 1000000 in
theorem keys_no {w : World} {v : Value} (h : IsNo w v) : Calls Try.prog 15 #[v] w fun e w' => e = .returned (.slice none 0 0) ∧ Below w.heap.size w w' := by
  obtain ⟨n0, hn0⟩ : ∃ x, w.heap.size = x := ⟨_, rfl⟩
  obtain ⟨W1, hW1⟩ : ∃ W, w.alloc (.cells #[.slice none 0 0] 42) = W := ⟨_, rfl⟩
  have hb : Below n0 w W1 := by rw [← hW1, ← hn0]; exact below_box _
  have k0 : W1.heap[n0]? = some (.cells #[.slice none 0 0] 42) := by rw [← hW1, ← hn0]; exact heap_alloc_new w _
  have HA := hide (all0_no (h.below (hn0 ▸ hb)))
  rw [hn0]
  refine (callsIn_wide (n := 3)).1 ?_
  refine callsIn_of_wp_marks Try.func15 rfl trivial ?_ rfl
  simp only [Try.ntmps15, List.size_toArray, List.length_cons, List.length_nil, Nat.reduceAdd, Nat.reduceSub, Array.replicate_succ, Array.replicate_zero, List.push_toArray, List.append_toArray, List.nil_append, List.cons_append]
  have HK := hide (And.intro k0 hb)
  clear k0 hb h
  gi_wp2_with fail
  try rw [hn0]
  try rw [hW1]
  refine ⟨trivial, ((callsIn_wide).2 (unhide HA)).mono ?_⟩
  rintro e W2 ⟨rfl, hb2⟩
  obtain ⟨k0, hb⟩ := unhide HK
  have hs1 : n0 < W1.heap.size := lt_of k0
  have k2 : W2.heap[n0]? = some (.cells #[.slice none 0 0] 42) := (hb2.block n0 hs1).trans k0
  have hbw : Below n0 w W2 := hb.trans (hb2.mono (by omega))
  gi_wp2_with fail
  refine range_none rfl (by decide) (gf := 72) (lb := #[]) rfl trivial (enters_of Try.func72 (by kernel_rfl) rfl) (Ok := fun _ _ => False) (none_seq (3 - 1) encE (fun _ _ => False) kTrue W2) (Below.refl _ _)
    (fun W => W.heap[n0]? = some (.cells #[.slice none 0 0] 42) ∧ Below n0 w W) (OwnFrom.and (ownFrom_blk _ _ (fun _ => .cells #[.slice none 0 0] 42) (by have := hb2.size; omega)) (ownFrom_below (by have := hb2.size; omega) (by have := hb2.size; omega))) ⟨k2, hbw⟩ fun D W hD ⟨hk, hB⟩ hK => ?_
  have c0 : W.cell? ⟨n0, 0, none⟩ = some (.slice none 0 0) := cell_at hk
  have HM : Hid (Marks [{ target := .collected D, args := #[] }] W) := (Marks.nil W).cons hK (fun c => by cases c)
  have HB := hide hB
  have hD2 : n0 < D := by have := hb2.size; omega
  have HV : Hid (Calls Try.prog 53 #[.slice none 0 0, .func (.func 54) #[] #[]] W fun e w' => e = .returned (.tuple #[]) ∧ w' = W) := AnyF.slices_SortFunc_none Try.sortK none 0 (.func (.func 54) #[] #[]) W
  clear hK hk hB k0 k2 hbw hb2 hb HK
  gi_wp2_with fail
  refine ⟨trivial, ((callsIn_wide).2 (unhide HV)).mono ?_⟩
  rintro e W3 ⟨rfl, rfl⟩
  gi_wp2
  refine leave_marks (w := W3) (unhide HM) fun w' hw => ?_
  have hdm : ∀ k, isMark [{ target := .collected D, args := #[] }] k → k = D := fun k c => by
    rcases List.mem_cons.1 c with e | e
    · simp only [Deferred.mk.injEq, Target.collected.injEq, and_true] at e; exact e
    · cases e
  have hBW := unhide HB
  have hWs := hBW.size
  refine ⟨_, by simp [results, Try.results15, go_sem], rfl, ?_⟩
  exact hBW.trans ⟨hw.os, hw.tape, hw.output, hw.size, fun k hk => hw.block k (by omega) fun c => by have := hdm k c; omega⟩
set_option maxHeartbeats 1000000 in
theorem told_no {w : World} (bx : Nat) (hc : w.cell? ⟨bx, 0, none⟩ = some (.slice none 0 0)) : Calls Try.prog 29 #[.func (.func 79) #[] #[PN bx], .slice none 0 0] w fun e w' => e = .returned (.bool true) ∧ Below w.heap.size w w' := by
  obtain ⟨n0, hn0⟩ : ∃ x, w.heap.size = x := ⟨_, rfl⟩
  obtain ⟨W1, hW1⟩ : ∃ W, (((w.alloc (.cells #[.slice none 0 0] 39)).alloc (.cells #[.bool false] 4)).alloc (.cells #[.int .i64 0] 3)) = W := ⟨_, rfl⟩
  have hb : Below n0 w W1 := by rw [← hW1, ← hn0]; exact ((((Below.refl _ _).alloc (Nat.le_refl _) _).alloc (by simp) _).alloc (by simp; omega) _)
  have hs1 : W1.heap.size = n0 + 3 := by rw [← hW1, ← hn0]; simp
  have k0 : W1.heap[n0]? = some (.cells #[.slice none 0 0] 39) := by rw [← hW1, Below.heap_alloc _ _ _ (by simp; omega), Below.heap_alloc _ _ _ (by simp; omega), ← hn0]; exact heap_alloc_new w _
  have k1 : W1.heap[n0 + 1]? = some (.cells #[.bool false] 4) := by rw [← hW1, Below.heap_alloc _ _ _ (by simp; omega)]; have := heap_alloc_new (w.alloc (.cells #[.slice none 0 0] 39)) (.cells #[.bool false] 4); rw [World.size_alloc, hn0] at this; exact this
  have k2 : W1.heap[n0 + 1 + 1]? = some (.cells #[.int .i64 0] 3) := by rw [← hW1]; have := heap_alloc_new ((w.alloc (.cells #[.slice none 0 0] 39)).alloc (.cells #[.bool false] 4)) (.cells #[.int .i64 0] 3); rw [World.size_alloc, World.size_alloc, hn0] at this; exact this
  have hc1 : W1.cell? ⟨bx, 0, none⟩ = some (.slice none 0 0) := below_rd (hn0 ▸ hb) hc
  rw [hn0]
  refine (callsIn_wide (n := 3)).1 ?_
  refine callsIn_of_wp_marks Try.func29 rfl trivial ?_ rfl
  simp only [Try.ntmps29, List.size_toArray, List.length_cons, List.length_nil, Nat.reduceAdd, Nat.reduceSub, Array.replicate_succ, Array.replicate_zero, List.push_toArray, List.append_toArray, List.nil_append, List.cons_append]
  have HK := hide (And.intro k0 (And.intro k1 k2))
  have HC := hide (And.intro hc1 (And.intro hb hs1))
  clear hc hc1 hb hs1 k0 k1 k2
  have HW1 := hide hW1
  clear hW1
  gi_wp2
  try rw [hn0]
  try rw [unhide HW1]
  obtain ⟨hc1, hb, hs1⟩ := unhide HC
  obtain ⟨k0, k1, k2⟩ := unhide HK
  refine range_none rfl (by decide) (gf := 79) (lb := #[PN bx]) rfl trivial (enters_of Try.func79 (by kernel_rfl) rfl) (Ok := fun _ _ => False) (vals_seq (3 - 1) bx encE (fun _ _ => False) kTrue W1 hc1) (Below.refl _ _)
    (fun W => ((W.heap[n0]? = some (.cells #[.slice none 0 0] 39) ∧ W.heap[n0 + 1]? = some (.cells #[.bool false] 4)) ∧ W.heap[n0 + 1 + 1]? = some (.cells #[.int .i64 0] 3)) ∧ Below n0 w W)
    (OwnFrom.and (OwnFrom.and (OwnFrom.and (ownFrom_blk _ _ (fun _ => .cells #[.slice none 0 0] 39) (by omega)) (ownFrom_blk _ _ (fun _ => .cells #[.bool false] 4) (by omega))) (ownFrom_blk _ _ (fun _ => .cells #[.int .i64 0] 3) (by omega))) (ownFrom_below (by omega) (by omega))) ⟨⟨⟨k0, k1⟩, k2⟩, hb⟩ fun D W hD ⟨⟨⟨kw, kr⟩, kn⟩, hBW⟩ hK => ?_
  have c0 : W.cell? ⟨n0 + 1 + 1, 0, none⟩ = some (.int .i64 0) := cell_at kn
  have c1 : W.cell? ⟨n0, 0, none⟩ = some (.slice none 0 0) := cell_at kw
  have c2 : W.cell? ⟨n0 + 1, 0, none⟩ = some (.bool false) := cell_at kr
  have f2 : W.frozen? ⟨n0 + 1, 0, none⟩ = false := frozen_of_heap kr
  have hD' : n0 + 3 ≤ D := by omega
  have HM : Hid (Marks [{ target := .collected D, args := #[] }] W) := (Marks.nil W).cons hK (fun c => by cases c)
  have HB := hide (And.intro hBW kr)
  clear hK hD hBW kw kr kn hb hs1 hc1 k0 k1 k2 HK HC
  gi_wp2
  obtain ⟨hBW, kr⟩ := unhide HB
  have hrl := (Array.getElem?_eq_some_iff.1 kr).1
  have hr9 : (W.setCell ⟨n0 + 1, 0, none⟩ (.bool true)).heap[n0 + 1]? = some (.cells #[.bool true] 4) := box_set _ kr
  have hMk : Marks [{ target := .collected D, args := #[] }] (W.setCell ⟨n0 + 1, 0, none⟩ (.bool true)) := (unhide HM).keep fun k hk => Below.heap_setCell _ _ _ _ (by
    rcases List.mem_cons.1 hk with e | e
    · simp only [Deferred.mk.injEq, Target.collected.injEq, and_true] at e; show k ≠ n0 + 1; omega
    · cases e)
  refine leave_marks (w := W.setCell ⟨n0 + 1, 0, none⟩ (.bool true)) hMk fun w' hw => ?_
  have hdm : ∀ k, isMark [{ target := .collected D, args := #[] }] k → n0 + 3 ≤ k := fun k c => by
    rcases List.mem_cons.1 c with e | e
    · simp only [Deferred.mk.injEq, Target.collected.injEq, and_true] at e; omega
    · cases e
  have sz : (W.setCell ⟨n0 + 1, 0, none⟩ (.bool true)).heap.size = W.heap.size := by simp [World.setCell]
  have hc9 : w'.cell? ⟨n0 + 1, 0, none⟩ = some (.bool true) := cell_at ((hw.block (n0 + 1) (by omega) fun c => by have := hdm _ c; omega).trans hr9)
  refine ⟨.bool true, by simp [results, Try.results29, go_sem, hc9], rfl, (hBW.setCell (p := ⟨n0 + 1, 0, none⟩) (by show n0 ≤ n0 + 1; omega) _).trans ⟨hw.os, hw.tape, hw.output, hw.size, fun k hk => hw.block k (by have := hBW.size; omega) fun c => by have := hdm k c; omega⟩⟩
end Go.Proofs.Yteenbebpdibbcaa
