/- Lagging's iterator: it goes through others', and hands on those that lag. -/
import Derived.Test.YtgehhoddmmjmjaaLG
namespace Go.Proofs.Ytgehhoddmmjmjaa
open Go.RowKit Go.Shelf
attribute [local go_sem] Oper.semAt_some

theorem grownBy_drew (A : World) : A.grownBy A.drew none := ⟨rfl, rfl, rfl, Nat.le_refl _, fun _ _ _ => rfl⟩
theorem OwnFrom.drew {β : Type} {N : Nat} {I : β → World → Prop} (h : OwnFrom N I) {s : β} {A : World} (hs : I s A) : I s A.drew := h s A _ none hs (grownBy_drew A) (fun r e => by cases e)
theorem OwnFrom.more {β : Type} {N M : Nat} {I : β → World → Prop} (h : OwnFrom N I) (hN : N ≤ M) : OwnFrom M I := fun s A B row hs hg hr => h s A B row hs hg (fun r e => ⟨by have := (hr r e).1; omega, (hr r e).2⟩)
theorem ownFrom_block {β : Type} (N k : Nat) (o : Option Obj) (hk : k < N) (ho : o ≠ none) : OwnFrom N (fun (_ : β) (W : World) => W.heap[k]? = o) := fun s A B row hs hg hr => by
  cases o with
  | none => exact absurd rfl ho
  | some o => exact (hg.block k (Array.getElem?_eq_some_iff.1 hs).1 (fun e => by have := (hr k e.symm).1; omega)).trans hs
theorem ownFrom_size {β : Type} (N k : Nat) : OwnFrom N (fun (_ : β) (W : World) => k ≤ W.heap.size) := fun _ _ _ _ hs hg _ => Nat.le_trans hs hg.size
theorem ownFrom_cell {β : Type} (N : Nat) (p : Addr) (v : Value) : OwnFrom N (fun (_ : β) (W : World) => W.cell? p = some v) := fun _ _ _ _ hs hg hr => cell_kept hs hg (fun r e => (hr r e).2)

set_option maxRecDepth 100000 in
set_option maxHeartbeats 2000000 in
theorem lag_deep (n b : Nat) (hn : 1 ≤ n) (B : Bk) (h5 : B.n ≤ 5) (hO : 0 < B.n → B.Ok) (w : World) (IB0 : IsB w b B) :
    SeqDeep Fence.wide n Try.prog 36 #[.pointer (some ⟨b, 0, none⟩)] (fun i : Nat => #[.int .i64 i]) (fun pre x => (pre ++ [x]) <+: lags B) (Kd (fun k => k = b)) (fun xs => xs = lags B) w := by
  intro l J W hW hJ hY hj0
  have IB := IB0.below hW
  have hbl := IB.lt
  have hb0 : ∃ o, W.heap[b]? = some o := ⟨_, Array.getElem?_eq_getElem hbl⟩
  clear IB0 hW
  refine callsIn_of_wp_marks Try.func36 rfl trivial ?_ rfl
  simp only [Try.ntmps36, List.size_toArray, List.length_cons, List.length_nil, Nat.reduceAdd, Nat.reduceSub, Array.replicate_succ, Array.replicate_zero, List.push_toArray, List.append_toArray, List.nil_append, List.cons_append]
  gi_wp2_with fail
  refine ⟨trivial, ((callsIn_wide).2 (others_any b _)).mono ?_⟩
  rintro e W2' ⟨rfl, rfl⟩
  obtain ⟨W2, hW2⟩ : ∃ W2, (W.alloc (.cells #[.func (.yield l) #[] #[]] 66)).alloc (.cells #[P0 b] 25) = W2 := ⟨_, rfl⟩
  have hsz : W2.heap.size = W.heap.size + 2 := by rw [← hW2]; simp
  have hbW : Below W.heap.size W W2 := by rw [← hW2]; exact ((Below.refl _ _).alloc (Nat.le_refl _) _).alloc (by simp) _
  have hp2 : W2.cell? ⟨W.heap.size, 0, none⟩ = some (.func (.yield l) #[] #[]) := by rw [← hW2]; simp [go_sem, World.cell?_alloc_old]
  have hq2 : W2.cell? ⟨W.heap.size + 1, 0, none⟩ = some (P0 b) := by rw [← hW2]; simp [go_sem]
  have hj2 : J [] W2 := by rw [← hW2]; exact hJ.alloc _ (hJ.alloc _ hj0)
  have hb2 : W2.heap[b]? = W.heap[b]? := hbW.block b hbl
  simp only [World.size_alloc]
  gi_wp2
  rw [hW2]
  clear hW2
  refine wpIn_range_deep rfl hn (gf := 42) (lb := #[.pointer (some ⟨W.heap.size + 1, 0, none⟩)]) rfl trivial (enters_of Try.func42 (by kernel_rfl) rfl)
    (others_deep (n - 1) (W.heap.size + 1) b B h5 W2 hq2 (IB.keepB hb2)) (fun k hk => by rcases hk with rfl | rfl <;> omega) (Below.refl _ _) (fun _ => rfl)
    (fun pre A => ((J (pre.filter (lagF B)) A ∧ A.cell? ⟨W.heap.size, 0, none⟩ = some (.func (.yield l) #[] #[])) ∧ A.heap[b]? = W.heap[b]?) ∧ W2.heap.size ≤ A.heap.size)
    (OwnFrom.and (OwnFrom.and (OwnFrom.and (fun s A B row hs hg hr => (OwnFrom.more hJ (by omega)) _ A B row hs hg hr) (ownFrom_cell _ _ _)) (ownFrom_block _ b _ (by omega) (by obtain ⟨o, h⟩ := hb0; rw [h]; simp))) (ownFrom_size _ _))
    ⟨⟨⟨hj2, hp2⟩, hb2⟩, Nat.le_refl _⟩
    (fun x A => A.alloc (.cells #[.int .i64 (B.nx x), .int .i64 (B.lk x)] 49))
    (fun x q => { tmps := #[.func (.yield l) #[] #[], .pointer (some ⟨b, 0, none⟩), .pointer (some ⟨W.heap.size, 0, none⟩), .int .i64 x, .pointer (some ⟨q, 0, none⟩), .func (.func 42) #[] #[.pointer (some ⟨W.heap.size + 1, 0, none⟩)], .int .i64 x, .agg #[.int .i64 (B.nx x), .int .i64 (B.lk x)], undef, undef, undef, undef, undef, undef, undef, undef, undef, undef], defers := [] })
    (fun x q pre A => (((J (pre.filter (lagF B)) A ∧ A.cell? ⟨W.heap.size, 0, none⟩ = some (.func (.yield l) #[] #[])) ∧ A.heap[b]? = W.heap[b]?) ∧ W2.heap.size ≤ A.heap.size) ∧ A.cell? ⟨q, 1, none⟩ = some (.int .i64 (B.lk x)))
    (fun x q => OwnFrom.and (OwnFrom.and (OwnFrom.and (OwnFrom.and (fun s A B row hs hg hr => (OwnFrom.more hJ (by omega)) _ A B row hs hg hr) (ownFrom_cell _ _ _)) (ownFrom_block _ b _ (by omega) (by obtain ⟨o, h⟩ := hb0; rw [h]; simp))) (ownFrom_size _ _)) (ownFrom_cell _ _ _))
    (fun x A => (Below.refl _ _).alloc (Nat.le_refl _) _)
    ?assign ?hA ?body ?done
  case assign =>
    intro l' x A K hK
    unfold encO
    gi_wp2
    exact hK
  case hA =>
    rintro pre x A ⟨⟨⟨e1, e2⟩, e3⟩, e4⟩ _ hs
    refine ⟨⟨⟨⟨hJ.alloc _ e1, ?_⟩, (Below.heap_alloc _ _ _ (by omega)).trans e3⟩, by simp; omega⟩, ?_⟩
    · rw [World.cell?_alloc_old _ _ _ (by show W.heap.size ≠ _; omega)]; exact e2
    · simp [go_sem]
  case body =>
    rintro l' pre x q A ⟨⟨⟨⟨e1, e2⟩, e3⟩, e4⟩, e5⟩ hOk
    have hx := othU_mem (hOk.subset (List.mem_append_right _ (List.mem_singleton.2 rfl)))
    have O := hO (by omega)
    have IA : IsB A.drew b B := (IB.keepB e3).drew
    have HL := hide (length_yes IA O)
    have HE := hide e1
    have HE3 := hide e3
    have HIB := hide IB
    have HOk := hide hOk
    have HJ := hide hJ
    clear e1 e3 IA hOk IB hJ hj0 hj2 O hO
    cases hl : lagF B x
    · have hl' : B.lk B.self ≤ B.lk x := by have : ¬ B.lk x < B.lk B.self := by simpa [lagF] using hl
                                            omega
      gi_wp2
      gi_region_with (first
        | (refine ⟨trivial, fun h => (by cases h), ?_⟩; refine (((callsIn_wide).2 (unhide HL)).inRound l').mono ?_; rintro e w1 ⟨rfl, rfl⟩)
        | (refine ⟨fun _ h => (by cases h), ?_⟩))
      all_goals
        gi_wp2
        refine ⟨(KeepsOthers.drew A).from _, Kd.drew, ⟨⟨?_, e2⟩, unhide HE3⟩, e4⟩
        rw [show (pre ++ [x]).filter (lagF B) = pre.filter (lagF B) by simp [List.filter_append, hl]]
        exact OwnFrom.drew (unhide HJ) (unhide HE)
    · have hl' : B.lk x < B.lk B.self := by simpa [lagF] using hl
      obtain ⟨fn, tmps, assign, body, hy, hRR⟩ := hY _ x A.drew (OwnFrom.drew (unhide HJ) (unhide HE)) (lag_prefix (unhide HOk) hl)
      have HRR := hide hRR
      clear hRR hY
      gi_wp2
      gi_region_with (first
        | (refine ⟨trivial, fun h => (by cases h), ?_⟩; refine (((callsIn_wide).2 (unhide HL)).inRound l').mono ?_; rintro e w1 ⟨rfl, rfl⟩)
        | (refine ⟨fun h => (by cases h), (round_wide (unhide HRR)).mono ?_⟩; rintro e W3 ⟨rfl, hJ3, hk3⟩; have HX := hide (And.intro hJ3 hk3); clear hJ3 hk3))
      all_goals
        gi_wp2
        have hX := unhide HX
        have hk3 : Kd (fun k => k = b) W.heap.size A W3 := Kd.drew.trans hX.2
        refine ⟨hk3.keeps (by omega), ⟨hk3.size, fun k hk => ?_, fun k h1 h2 => hk3.up k (by omega) h2⟩, ⟨⟨?_, ?_⟩, (hk3.one b rfl).trans (unhide HE3)⟩, Nat.le_trans e4 hk3.size⟩
        · rcases hk with rfl | rfl
          · exact hk3.one _ rfl
          · exact hk3.up _ (by omega) (by omega)
        · rw [show (pre ++ [x]).filter (lagF B) = pre.filter (lagF B) ++ [x] by simp [List.filter_append, hl]]
          exact hX.1
        · rw [World.cell?_of_block (w := A) (a := ⟨W.heap.size, 0, none⟩) (hk3.up _ (Nat.le_refl _) (by show W.heap.size < _; omega))]; exact e2
  case done =>
    rintro D xs A hD rfl ⟨⟨⟨e1, e2⟩, e3⟩, e4⟩ hK
    gi_wp2
    refine ⟨by simp, .inl ⟨_, _, rfl, run_takeDeferred hK, ?_⟩⟩
    refine ⟨.tuple #[], ?_, ⟨_, rfl⟩, _, rfl, hJ.putObj _ e1 (by omega) hK rfl⟩
    simp [results, Try.results36, go_sem]
end Go.Proofs.Ytgehhoddmmjmjaa
