/- What a law begins with: three ask, two are released. -/
import Derived.Test.YteenbebpdibbcaaE0
namespace Go.Proofs.Yteenbebpdibbcaa
open Go.RowKit
set_option maxRecDepth 100000

def kbC : Obj := .cells #[.int .i32 0, .int .i64 1] 45
def lkC (ex : Bool) : Obj := .cells #[.int .i32 0, .int .i64 1, .bool ex] 66
theorem merge2 {A : Prop} {C : Nat → World → Prop} {G : Nat → World → Prop} (hA : (∀ sb z, C sb z → G sb z) → A) (hG : ∀ sb z, C sb z → G sb z) : A := hA hG
theorem okI (n : Int) (h : 0 ≤ n ∧ n ≤ 100) : I.OkK (n, 0) := by unfold I.OkK; simp only; omega
theorem sees_lk {z : World} {sb : Nat} {ex : Bool} (h : z.heap[sb]? = some (lkC ex)) : SeesL lC 3 z (.slice (some ⟨sb, 0, none⟩) 1 1) [((0, 1), ex)] := by
  refine ⟨_, _, sb, 0, rfl, Nat.le_refl _, by simp, (fun h => by simp at h), fun _ => rfl, fun t x hx j hj => ?_⟩
  obtain rfl : t = 0 := by
    have := (List.getElem?_eq_some_iff.1 hx).1
    simp at this; omega
  simp only [List.getElem?_cons_zero, Option.some.injEq] at hx
  subst hx
  rw [cell_at h]
  rcases (by omega : j = 0 ∨ j = 1 ∨ j = 2) with rfl | rfl | rfl <;> rfl
theorem req_st {P : Nat → Prop} {lb : Nat} {L : List Am} {k n : Int} {X Z : World} {sb kb : Nat} {ex : Bool} {C : Obj} (h : Lq P lb L k X) (hPX : ∀ j, P j → j < X.heap.size) (hb : Below X.heap.size X Z) (hsb : X.heap.size ≤ sb) (hz : Z.heap[sb]? = some (lkC ex)) (hk : k ≤ 10) (hn : 0 ≤ n ∧ n ≤ 100) (hid : (n, 0) ∉ L.map (·.id)) (hkb : P kb) (hC : Z.heap[kb]? = some C) {N : Nat} (hN : ∀ j, j < N → P j) :
    Calls Try.prog 13 #[PN lb, .agg #[.int .i64 n, .int .i64 0], .slice (some ⟨sb, 0, none⟩) 1 1] Z fun e w' => e = .returned (.int .i64 0) ∧ ∃ x : Am, Lq P lb (L ++ [x]) (k + 1) w' ∧ x.id = (n, 0) ∧ x.cl.map (·.2) = [((0, 1), ex)] ∧ w'.heap[kb]? = some C ∧ (∀ j, P j → j < w'.heap.size) ∧ Below N Z w' := by
  refine (request_lq h hb hPX (v := .slice (some ⟨sb, 0, none⟩) 1 1) (l := [((0, 1), ex)]) (fun z hf => sees_lk ((hf sb (.inr hsb) (lt_of hz)).trans hz)) (by simp) (fun x hx => ?_) n 0 (okI n hn) (by omega) (fun i hi => by simp at hi) hid).mono fun e w' ⟨e1, ⟨x, q1, q2, q3⟩, q4, q5, _, o1, o2, o3⟩ => ⟨e1, x, q1, q2, q3, (q4 kb hkb).trans hC, fun j hj => ?_, o1, o2, o3, q5, fun j hj => q4 j (hN j hj)⟩
  · simp only [List.mem_singleton] at hx
    rw [hx]; unfold OkK; simp
  · have := hPX j hj
    have := hb.size
    omega
/-- Three that have asked, as begun's. -/
structure Three (x1 x2 x3 : Am) : Prop where
  i1 : x1.id = (1, 0)
  i2 : x2.id = (2, 0)
  i3 : x3.id = (3, 0)
  c1 : x1.cl.map (·.2) = [((0, 1), false)]
  c2 : x2.cl.map (·.2) = [((0, 1), false)]
  c3 : x3.cl.map (·.2) = [((0, 1), true)]
theorem rdy2 : Rdy [[((0, 1), false)]] [((0, 1), false)] := by
  intro x hx m hm y hy _
  simp only [List.mem_singleton] at hx hm
  subst hm
  simp only [List.mem_singleton] at hy
  rw [hx, hy]; exact ⟨rfl, rfl⟩
theorem rdy0 (l : List Lk) : Rdy [] l := fun x _ m hm => by simp at hm
theorem not_rdy {M : List (List Lk)} {m : List Lk} (hm : m ∈ M) {e : Bool} (hy : ((0, 1), e) ∈ m) : ¬ Rdy M [((0, 1), true)] := fun h => by
  have := (h ((0, 1), true) (by simp) m hm _ hy rfl).2
  cases this
theorem ready3 {P : Nat → Prop} {lb : Nat} {x1 x2 x3 : Am} {k : Int} {w : World} (h : Lq P lb [x1, x2, x3] k w) (hT : Three x1 x2 x3) : Calls Try.prog 21 #[PN lb, .agg #[.int .i64 3, .int .i64 0]] w fun e w' => e = .returned (.bool false) ∧ Below w.heap.size w w' := by
  refine (ready_lq (L1 := [x1, x2]) (L2 := []) h 3 0 hT.i3 (okI 3 (by omega))).mono fun e w' ⟨r, e1, e2, e3⟩ => ⟨?_, e3⟩
  rw [e1]
  cases r with
  | false => rfl
  | true =>
    have := e2.1 rfl
    rw [hT.c3] at this
    exact absurd this (not_rdy (m := x1.cl.map (·.2)) (by simp [wantsL]) (e := false) (by rw [hT.c1]; simp))
theorem ready2 {P : Nat → Prop} {lb : Nat} {x1 x2 x3 : Am} {k : Int} {w : World} (h : Lq P lb [x1, x2, x3] k w) (hT : Three x1 x2 x3) : Calls Try.prog 21 #[PN lb, .agg #[.int .i64 2, .int .i64 0]] w fun e w' => e = .returned (.bool true) ∧ Below w.heap.size w w' := by
  refine (ready_lq (L1 := [x1]) (L2 := [x3]) h 2 0 hT.i2 (okI 2 (by omega))).mono fun e w' ⟨r, e1, e2, e3⟩ => ⟨?_, e3⟩
  rw [e1, e2.2 (by rw [hT.c2]; show Rdy [x1.cl.map (·.2)] _; rw [hT.c1]; exact rdy2)]
theorem rel1 {N : Nat} {P : Nat → Prop} {lb : Nat} {x1 x2 x3 : Am} {k : Int} {w : World} (h : Lq P lb [x1, x2, x3] k w) (hT : Three x1 x2 x3) (hPw : ∀ j, P j → j < w.heap.size) (hN : ∀ j, j < N → P j) (hk : k ≤ 10) : Calls Try.prog 14 #[PN lb, .agg #[.int .i64 1, .int .i64 0]] w fun e w' => ∃ a c, e = .returned (.tuple #[.slice a 0 c, .int .i64 0]) ∧ Lq P lb [x2, x3] k w' ∧ Below N w w' := by
  refine (release_lq (L1 := []) (L2 := [x2, x3]) (x := x1) h hPw 1 0 hT.i1 (okI 1 (by omega)) (by omega)).mono fun e w' ⟨v, rdL, e1, e2, e3, e4, e5, e6, e7, o1, o2, o3⟩ => ?_
  have h2 : x2 ∉ rdL := fun c => by
    have := ((e4 [] x2 [x3] rfl [x1] [x3] rfl).1 c).2
    rw [hT.c2] at this
    exact this (by show Rdy [x1.cl.map (·.2)] _; rw [hT.c1]; exact rdy2)
  have h3 : x3 ∉ rdL := fun c => by
    have := ((e4 [x2] x3 [] rfl [x1, x2] [] rfl).1 c).1
    rw [hT.c3] at this
    exact not_rdy (m := x2.cl.map (·.2)) (by simp [wantsL]) (e := false) (by rw [hT.c2]; simp) this
  have hn : rdL = [] := List.eq_nil_iff_forall_not_mem.2 fun y hy => by
    have := e3.subset hy
    simp only [List.nil_append, List.mem_cons, List.not_mem_nil, or_false] at this
    rcases this with rfl | rfl
    · exact h2 hy
    · exact h3 hy
  subst hn
  obtain ⟨a, c, rfl⟩ := own_shape e5
  exact ⟨a, c, e1, e2, o1, o2, o3, e6, fun j hj => e7 j (hN j hj)⟩
theorem rel2 {N : Nat} {P : Nat → Prop} {lb : Nat} {x1 x2 x3 : Am} {k : Int} {w : World} (h : Lq P lb [x2, x3] k w) (hT : Three x1 x2 x3) (hPw : ∀ j, P j → j < w.heap.size) (hN : ∀ j, j < N → P j) (hk : k ≤ 10) : Calls Try.prog 14 #[PN lb, .agg #[.int .i64 2, .int .i64 0]] w fun e w' => ∃ a c, e = .returned (.tuple #[.slice a 1 c, .int .i64 0]) ∧ SeesL iC 2 w' (.slice a 1 c) [(3, 0)] ∧ Below N w w' := by
  refine (release_lq (L1 := []) (L2 := [x3]) (x := x2) h hPw 2 0 hT.i2 (okI 2 (by omega)) (by omega)).mono fun e w' ⟨v, rdL, e1, e2, e3, e4, e5, e6, e7, o1, o2, o3⟩ => ?_
  have h3 : x3 ∈ rdL := (e4 [] x3 [] rfl [x2] [] rfl).2 ⟨rdy0 _, by
    rw [hT.c3]
    exact not_rdy (m := x2.cl.map (·.2)) (by simp [wantsL]) (e := false) (by rw [hT.c2]; simp)⟩
  have hn : rdL = [x3] := by
    have hl := e3.length_le
    have hsub := e3
    match rdL, h3, hl, hsub with
    | [], h3, _, _ => simp at h3
    | [y], h3, _, _ => rw [List.mem_singleton] at h3; rw [h3]
    | _ :: _ :: _, _, hl, _ => simp at hl
  subst hn
  obtain ⟨_, hs⟩ := own_sees iC_len (by decide) e5
  obtain ⟨a, c, rfl⟩ := own_shape e5
  have : [x3].map (·.id) = [(3, 0)] := by rw [List.map_cons, hT.i3]; rfl
  rw [this] at hs
  exact ⟨a, c, e1, hs, o1, o2, o3, e6, fun j hj => e7 j (hN j hj)⟩
/-- Where begun stands, ahead of its last release. -/
structure Cu (w : World) (N : Nat) (P : Nat → Prop) (lb : Nat) (L : List Am) (c : World) : Prop where
  q : Lq P lb L 3 c
  s : ∀ j, P j → j < c.heap.size
  b : Below N w c
  n : N ≤ c.heap.size
  p : ∀ j, j < N → P j
theorem Cu.step {w c v : World} {N : Nat} {P : Nat → Prop} {lb : Nat} {L : List Am} (h : Cu w N P lb L c) (hv : Below c.heap.size c v) : Cu w N P lb L v :=
  ⟨h.q.below hv, fun j hj => Nat.lt_of_lt_of_le (h.s j hj) hv.size, h.b.trans (hv.mono h.n), Nat.le_trans h.n hv.size, h.p⟩
structure Ce (w : World) (N : Nat) (u : Value) (c : World) : Prop where
  s : SeesL iC 2 c u [(3, 0)]
  b : Below N w c
  n : N ≤ c.heap.size
theorem Ce.step {w c v : World} {N : Nat} {u : Value} (h : Ce w N u c) (hv : Below c.heap.size c v) : Ce w N u v :=
  ⟨h.s.below iC_len hv, h.b.trans (hv.mono h.n), Nat.le_trans h.n hv.size⟩
theorem Cu.rel1 {w c : World} {N : Nat} {P : Nat → Prop} {lb : Nat} {x1 x2 x3 : Am} (h : Cu w N P lb [x1, x2, x3] c) (hT : Three x1 x2 x3) : Calls Try.prog 14 #[PN lb, .agg #[.int .i64 1, .int .i64 0]] c fun e v => ∃ a d, e = .returned (.tuple #[.slice a 0 d, .int .i64 0]) ∧ Cu w N P lb [x2, x3] v :=
  (Go.Proofs.Yteenbebpdibbcaa.rel1 h.q hT h.s h.p (by omega)).mono fun e v ⟨a, d, e1, e2, e3⟩ => ⟨a, d, e1, e2, fun j hj => Nat.lt_of_lt_of_le (h.s j hj) e3.size, h.b.trans e3, Nat.le_trans h.n e3.size, h.p⟩
theorem Cu.rel2 {w c : World} {N : Nat} {P : Nat → Prop} {lb : Nat} {x1 x2 x3 : Am} (h : Cu w N P lb [x2, x3] c) (hT : Three x1 x2 x3) : Calls Try.prog 14 #[PN lb, .agg #[.int .i64 2, .int .i64 0]] c fun e v => ∃ a d, e = .returned (.tuple #[.slice a 1 d, .int .i64 0]) ∧ Ce w N (.slice a 1 d) v :=
  (Go.Proofs.Yteenbebpdibbcaa.rel2 h.q hT h.s h.p (by omega)).mono fun e v ⟨a, d, e1, e2, e3⟩ => ⟨a, d, e1, e2, h.b.trans e3, Nat.le_trans h.n e3.size⟩
theorem Ce.eq {w c : World} {N : Nat} {u : Value} (h : Ce w N u c) : Calls Try.prog 32 #[u, .slice (some ⟨c.heap.size, 0, none⟩) 1 1] (c.alloc (.cells #[.int .i64 3, .int .i64 0] 29)) fun e v => e = .returned (.bool true) ∧ Below N w v := by
  have hb : Below c.heap.size c (c.alloc (.cells #[.int .i64 3, .int .i64 0] 29)) := below_box _
  have h2 := h.step hb
  refine (idsEq_any h2.s (sees_oneI c (3, 0))).mono fun e v ⟨e1, e2⟩ => ⟨by rw [e1]; rfl, h2.b.trans (e2.mono h2.n)⟩
set_option maxHeartbeats 8000000 in
theorem begun_any (w : World) : Calls Try.prog 10 #[] w fun e w' => e = .returned (.bool true) ∧ Below w.heap.size w w' := by
  obtain ⟨N, hN⟩ : ∃ n, w.heap.size = n := ⟨_, rfl⟩
  have HNew := hide (new_lq w)
  rw [hN]
  go_enter Try.func10, Try.ntmps10
  go_wp2_with (go_at_call 8; refine (unhide HNew).mono ?_; rintro e w1 ⟨lb, rfl, hq0, hb0⟩)
  rw [hN] at hb0
  obtain ⟨kb, hkb⟩ : ∃ z, w1.heap.size = z := ⟨_, rfl⟩
  try rw [hkb]
  rw [hN] at hq0
  obtain ⟨X, hX⟩ : ∃ z, (w1.alloc (.cells #[.int .i32 0, .int .i64 1] 45)).drew = z := ⟨_, rfl⟩
  have bX : Below w1.heap.size w1 X := by rw [← hX]; exact (below_box _).drew
  have hX0 : X.heap[kb]? = some kbC := by rw [← hX, ← hkb]; exact heap_alloc_new w1 _
  have zX : X.heap.size = kb + 1 := by rw [← hX, ← hkb]; simp [World.drew]
  obtain ⟨P, hP⟩ : ∃ P, (fun j => j < N ∨ j = kb) = P := ⟨_, rfl⟩
  have hNk : N ≤ kb := by rw [← hkb, ← hN]; exact hN ▸ hb0.size
  have hq1 : Lq P lb [] 0 X := by
    obtain ⟨B, mq, mp, S, q1, q2, q3, q4⟩ := hq0
    refine ⟨B, mq, mp, S, q1.below bX, q2, q3, fun j hj => ⟨fun hp => ?_, by have := (q4 j hj).2; omega⟩⟩
    rw [← hP] at hp
    rcases hp with hp | hp
    · exact (q4 j hj).1 hp
    · have := (q4 j hj).2; omega
  have hPX : ∀ j, P j → j < X.heap.size := fun j hp => by
    rw [← hP] at hp
    rcases hp with hp | hp <;> omega
  have HPN : Hid ((∀ j, j < N → P j) ∧ P kb) := by rw [← hP]; exact ⟨fun j hj => .inl hj, .inr rfl⟩
  have hbX : Below N w X := hb0.trans (bX.mono (by omega))
  have hNX0 : N ≤ X.heap.size := by omega
  clear hb0 bX hP hq0 HNew
  have HX := hide hX
  have HZ := hide zX
  clear zX
  have hXs : (w1.alloc (.cells #[.int .i32 0, .int .i64 1] 45)).drew.heap[kb]? = some kbC := by rw [hX]; exact hX0
  clear hX
  refine wp_region_held_drew (S := fun x => x.heap[kb]? = some (.cells #[.int .i32 0, .int .i64 1] 45)) (by kernel_rfl) hXs (fun hHeld => ?_)
  refine wpAnyH_take (i := 0) (v := ?v1x0) rfl (by kernel_rfl) (by kernel_rfl) (by kernel_rfl) (fun _ _ _ h => h) (Or.inl ⟨by rfl, ?hy1x0⟩) (by assumption) ?rest1x0
  case hy1x0 => intro w hSw; go_simp <;> with_reducible rfl
  simp only [Act.put, List.getElem_toArray, List.getElem_cons_zero, List.setIfInBounds_toArray, List.set_cons_zero, List.set_cons_succ]
  refine wpAnyH_take (i := 1) (v := ?v2x1) rfl (by kernel_rfl) (by kernel_rfl) (by kernel_rfl) (fun _ _ _ h => h) (Or.inl ⟨by rfl, ?hy2x1⟩) (by assumption) ?rest2x1
  case hy2x1 => intro w hSw; go_simp <;> with_reducible rfl
  simp only [Act.put, List.getElem_toArray, List.getElem_cons_zero, List.getElem_cons_succ, List.setIfInBounds_toArray, List.set_cons_zero, List.set_cons_succ]
  refine wpAnyH_take (i := 2) (v := ?v3x2) rfl (by kernel_rfl) (by kernel_rfl) (by kernel_rfl) (fun _ _ _ h => h) (Or.inl ⟨by rfl, ?hy3x2⟩) (by assumption) ?rest3x2
  case hy3x2 => intro w hSw; go_simp <;> with_reducible rfl
  simp only [Act.put, List.getElem_toArray, List.getElem_cons_zero, List.getElem_cons_succ, List.setIfInBounds_toArray, List.set_cons_zero, List.set_cons_succ]
  refine wpAnyH_take (i := 3) (v := ?v4x3) rfl (by kernel_rfl) (by kernel_rfl) (by kernel_rfl) (fun _ _ _ h => h) (Or.inl ⟨by rfl, ?hy4x3⟩) (by assumption) ?rest4x3
  case hy4x3 => intro w hSw; go_simp <;> with_reducible rfl
  simp only [Act.put, List.getElem_toArray, List.getElem_cons_zero, List.getElem_cons_succ, List.setIfInBounds_toArray, List.set_cons_zero, List.set_cons_succ]
  refine wpAnyH_take (i := 5) (v := (.agg #[.int .i32 0, .int .i64 1])) rfl (by kernel_rfl) (by kernel_rfl) (by kernel_rfl) (fun _ _ _ h => h) (Or.inl ⟨by rfl, ?hy5x5⟩) (by assumption) ?rest5x5
  case hy5x5 => intro w hSw; have s0 := cell_at (o := 0) hSw; have s1 := cell_at (o := 1) hSw; go_simp <;> with_reducible rfl
  simp only [Act.put, List.getElem_toArray, List.getElem_cons_zero, List.getElem_cons_succ, List.setIfInBounds_toArray, List.set_cons_zero, List.set_cons_succ]
  refine wpAnyH_take (i := 6) (v := ?v6x6) rfl (by kernel_rfl) (by kernel_rfl) (by kernel_rfl) (fun _ _ _ h => h) (Or.inl ⟨by rfl, ?hy6x6⟩) (by assumption) ?rest6x6
  case hy6x6 => intro w hSw; go_simp <;> with_reducible rfl
  simp only [Act.put, List.getElem_toArray, List.getElem_cons_zero, List.getElem_cons_succ, List.setIfInBounds_toArray, List.set_cons_zero, List.set_cons_succ]
  have HH := hide hHeld
  clear hHeld
  apply merge2 (C := fun _ z => ∃ x1 : Am, Lq P lb [x1] (0 + 1) z ∧ x1.id = (1, 0) ∧ x1.cl.map (·.2) = [((0, 1), false)] ∧ z.heap[kb]? = some kbC ∧ (∀ j, P j → j < z.heap.size) ∧ Below N w z ∧ N ≤ z.heap.size)
  · intro key
    have hHeld := unhide HH
    refine wpAnyH_ready (rs := [4, 7]) (by kernel_rfl) (by simp) ?_
    refine AllReadyH.cons rfl (fun K hK => ?_) (AllReadyH.cons rfl (fun K hK => ?_) AllReadyH.nil)
    · go_simp
      rw [unhide HX]
      refine (id_any 1 X).mono ?_
      rintro e ya1 ⟨rfl, ha1⟩
      have hka1 : ya1.heap[kb]? = some kbC := (ha1.block kb (lt_of hX0)).trans hX0
      refine hK _ _ hka1 ?_
      clear hK hHeld
      intro hHeld
      refine wpAnyH_ready (rs := [7]) (by kernel_rfl) (by simp) ?_
      refine AllReadyH.cons rfl (fun K hK => ?_) AllReadyH.nil
      go_simp
      have hkb1 : (ya1.alloc (lkC false)).heap[kb]? = some kbC := ((below_box (lkC false)).block kb (lt_of hka1)).trans hka1
      refine hK _ _ hkb1 ?_
      clear hK hHeld
      intro hHeld
      refine wpAnyH_ready (rs := [8]) (by kernel_rfl) (by simp) ?_
      refine AllReadyH.cons rfl (fun K hK => ?_) AllReadyH.nil
      go_simp
      refine (req_st (N := N) hq1 hPX (ha1.trans ((below_box (lkC false)).mono ha1.size)) ha1.size (heap_alloc_new ya1 _) (by omega) (by omega) (by simp) (unhide HPN).2 hkb1 (unhide HPN).1).mono ?_
      rintro e z1 ⟨rfl, x1, hq2, i1, c1, hk1, hPX1, hbw1⟩
      refine hK _ _ hk1 ?_
      clear hK hHeld
      have hB1 : Below N w z1 := hbX.trans (((ha1.trans ((below_box (lkC false)).mono ha1.size)).mono hNX0).trans hbw1)
      have hNX1 : N ≤ z1.heap.size := by rw [← hN]; exact hN ▸ hB1.size
      generalize ya1.heap.size = sb
      exact key sb z1 ⟨x1, hq2, i1, c1, hk1, hPX1, hB1, hNX1⟩
    · go_simp
      rw [show ((w1.alloc (.cells #[.int .i32 0, .int .i64 1] 45)).alloc (.cells #[.int .i32 0, .int .i64 1, .bool false] 66)).drew = X.alloc (lkC false) from by rw [← unhide HX]; rfl, show kb + 1 = X.heap.size from (unhide HZ).symm]
      have hkb1 : (X.alloc (lkC false)).heap[kb]? = some kbC := ((below_box (lkC false)).block kb (lt_of hX0)).trans hX0
      refine hK _ _ hkb1 ?_
      clear hK hHeld
      intro hHeld
      refine wpAnyH_ready (rs := [4]) (by kernel_rfl) (by simp) ?_
      refine AllReadyH.cons rfl (fun K hK => ?_) AllReadyH.nil
      go_simp
      refine (id_any 1 (X.alloc (lkC false))).mono ?_
      rintro e yb1 ⟨rfl, hb1⟩
      refine hK _ _ ((hb1.block kb (lt_of hkb1)).trans hkb1) ?_
      clear hK hHeld
      intro hHeld
      have hkc1 : yb1.heap[kb]? = some kbC := (hb1.block kb (lt_of hkb1)).trans hkb1
      have hsl1 : yb1.heap[X.heap.size]? = some (lkC false) := (hb1.block _ (by simp)).trans (heap_alloc_new X _)
      refine wpAnyH_ready (rs := [8]) (by kernel_rfl) (by simp) ?_
      refine AllReadyH.cons rfl (fun K hK => ?_) AllReadyH.nil
      go_simp
      refine (req_st (N := N) hq1 hPX ((below_box (lkC false)).trans (hb1.mono (by simp))) (Nat.le_refl _) hsl1 (by omega) (by omega) (by simp) (unhide HPN).2 hkc1 (unhide HPN).1).mono ?_
      rintro e z1 ⟨rfl, x1, hq2, i1, c1, hk1, hPX1, hbw1⟩
      refine hK _ _ hk1 ?_
      clear hK hHeld
      have hB1 : Below N w z1 := hbX.trans ((((below_box (lkC false)).trans (hb1.mono (by simp))).mono hNX0).trans hbw1)
      have hNX1 : N ≤ z1.heap.size := by rw [← hN]; exact hN ▸ hB1.size
      generalize X.heap.size = sb
      exact key sb z1 ⟨x1, hq2, i1, c1, hk1, hPX1, hB1, hNX1⟩
  intro sb1 z1 ⟨x1, hq2, i1, c1, hk1, hPX1, hB1, hNX1⟩
  clear HH
  intro hHeld
  refine wpAnyH_take (i := 9) (v := ?v7x9) rfl (by kernel_rfl) (by kernel_rfl) (by kernel_rfl) (fun _ _ _ h => h) (Or.inl ⟨by rfl, ?hy7x9⟩) (by assumption) ?rest7x9
  case hy7x9 => intro w hSw; go_simp <;> with_reducible rfl
  simp only [Act.put, List.getElem_toArray, List.getElem_cons_zero, List.getElem_cons_succ, List.setIfInBounds_toArray, List.set_cons_zero, List.set_cons_succ]
  refine wpAnyH_take (i := 10) (v := ?v8x10) rfl (by kernel_rfl) (by kernel_rfl) (by kernel_rfl) (fun _ _ _ h => h) (Or.inl ⟨by rfl, ?hy8x10⟩) (by assumption) ?rest8x10
  case hy8x10 => intro w hSw; go_simp <;> with_reducible rfl
  simp only [Act.put, List.getElem_toArray, List.getElem_cons_zero, List.getElem_cons_succ, List.setIfInBounds_toArray, List.set_cons_zero, List.set_cons_succ]
  refine wpAnyH_take (i := 11) (v := ?v9x11) rfl (by kernel_rfl) (by kernel_rfl) (by kernel_rfl) (fun _ _ _ h => h) (Or.inl ⟨by rfl, ?hy9x11⟩) (by assumption) ?rest9x11
  case hy9x11 => intro w hSw; go_simp <;> with_reducible rfl
  simp only [Act.put, List.getElem_toArray, List.getElem_cons_zero, List.getElem_cons_succ, List.setIfInBounds_toArray, List.set_cons_zero, List.set_cons_succ]
  refine wpAnyH_take (i := 12) (v := ?v10x12) rfl (by kernel_rfl) (by kernel_rfl) (by kernel_rfl) (fun _ _ _ h => h) (Or.inl ⟨by rfl, ?hy10x12⟩) (by assumption) ?rest10x12
  case hy10x12 => intro w hSw; go_simp <;> with_reducible rfl
  simp only [Act.put, List.getElem_toArray, List.getElem_cons_zero, List.getElem_cons_succ, List.setIfInBounds_toArray, List.set_cons_zero, List.set_cons_succ]
  refine wpAnyH_take (i := 14) (v := (.agg #[.int .i32 0, .int .i64 1])) rfl (by kernel_rfl) (by kernel_rfl) (by kernel_rfl) (fun _ _ _ h => h) (Or.inl ⟨by rfl, ?hy11x14⟩) (by assumption) ?rest11x14
  case hy11x14 => intro w hSw; have s0 := cell_at (o := 0) hSw; have s1 := cell_at (o := 1) hSw; go_simp <;> with_reducible rfl
  simp only [Act.put, List.getElem_toArray, List.getElem_cons_zero, List.getElem_cons_succ, List.setIfInBounds_toArray, List.set_cons_zero, List.set_cons_succ]
  refine wpAnyH_take (i := 15) (v := ?v12x15) rfl (by kernel_rfl) (by kernel_rfl) (by kernel_rfl) (fun _ _ _ h => h) (Or.inl ⟨by rfl, ?hy12x15⟩) (by assumption) ?rest12x15
  case hy12x15 => intro w hSw; go_simp <;> with_reducible rfl
  simp only [Act.put, List.getElem_toArray, List.getElem_cons_zero, List.getElem_cons_succ, List.setIfInBounds_toArray, List.set_cons_zero, List.set_cons_succ]
  have HH := hide hHeld
  clear hHeld
  apply merge2 (C := fun _ z => ∃ x1 x2 : Am, Lq P lb [x1, x2] (0 + 1 + 1) z ∧ x1.id = (1, 0) ∧ x1.cl.map (·.2) = [((0, 1), false)] ∧ x2.id = (2, 0) ∧ x2.cl.map (·.2) = [((0, 1), false)] ∧ z.heap[kb]? = some kbC ∧ (∀ j, P j → j < z.heap.size) ∧ Below N w z ∧ N ≤ z.heap.size)
  · intro key
    have hHeld := unhide HH
    refine wpAnyH_ready (rs := [13, 16]) (by kernel_rfl) (by simp) ?_
    refine AllReadyH.cons rfl (fun K hK => ?_) (AllReadyH.cons rfl (fun K hK => ?_) AllReadyH.nil)
    · go_simp
      refine (id_any 2 z1).mono ?_
      rintro e ya2 ⟨rfl, ha2⟩
      have hka2 : ya2.heap[kb]? = some kbC := (ha2.block kb (lt_of hk1)).trans hk1
      refine hK _ _ hka2 ?_
      clear hK hHeld
      intro hHeld
      refine wpAnyH_ready (rs := [16]) (by kernel_rfl) (by simp) ?_
      refine AllReadyH.cons rfl (fun K hK => ?_) AllReadyH.nil
      go_simp
      have hkb2 : (ya2.alloc (lkC false)).heap[kb]? = some kbC := ((below_box (lkC false)).block kb (lt_of hka2)).trans hka2
      refine hK _ _ hkb2 ?_
      clear hK hHeld
      intro hHeld
      refine wpAnyH_ready (rs := [17]) (by kernel_rfl) (by simp) ?_
      refine AllReadyH.cons rfl (fun K hK => ?_) AllReadyH.nil
      go_simp
      refine (req_st (N := N) hq2 hPX1 (ha2.trans ((below_box (lkC false)).mono ha2.size)) ha2.size (heap_alloc_new ya2 _) (by omega) (by omega) (by simp [i1]) (unhide HPN).2 hkb2 (unhide HPN).1).mono ?_
      rintro e z2 ⟨rfl, x2, hq3, i2, c2, hk2, hPX2, hbw2⟩
      refine hK _ _ hk2 ?_
      clear hK hHeld
      have hB2 : Below N w z2 := hB1.trans (((ha2.trans ((below_box (lkC false)).mono ha2.size)).mono hNX1).trans hbw2)
      have hNX2 : N ≤ z2.heap.size := by rw [← hN]; exact hN ▸ hB2.size
      generalize ya2.heap.size = sb
      exact key sb z2 ⟨x1, x2, hq3, i1, c1, i2, c2, hk2, hPX2, hB2, hNX2⟩
    · go_simp
      have hkb2 : (z1.alloc (lkC false)).heap[kb]? = some kbC := ((below_box (lkC false)).block kb (lt_of hk1)).trans hk1
      refine hK _ _ hkb2 ?_
      clear hK hHeld
      intro hHeld
      refine wpAnyH_ready (rs := [13]) (by kernel_rfl) (by simp) ?_
      refine AllReadyH.cons rfl (fun K hK => ?_) AllReadyH.nil
      go_simp
      refine (id_any 2 (z1.alloc (lkC false))).mono ?_
      rintro e yb2 ⟨rfl, hb2⟩
      refine hK _ _ ((hb2.block kb (lt_of hkb2)).trans hkb2) ?_
      clear hK hHeld
      intro hHeld
      have hkc2 : yb2.heap[kb]? = some kbC := (hb2.block kb (lt_of hkb2)).trans hkb2
      have hsl2 : yb2.heap[z1.heap.size]? = some (lkC false) := (hb2.block _ (by simp)).trans (heap_alloc_new z1 _)
      refine wpAnyH_ready (rs := [17]) (by kernel_rfl) (by simp) ?_
      refine AllReadyH.cons rfl (fun K hK => ?_) AllReadyH.nil
      go_simp
      refine (req_st (N := N) hq2 hPX1 ((below_box (lkC false)).trans (hb2.mono (by simp))) (Nat.le_refl _) hsl2 (by omega) (by omega) (by simp [i1]) (unhide HPN).2 hkc2 (unhide HPN).1).mono ?_
      rintro e z2 ⟨rfl, x2, hq3, i2, c2, hk2, hPX2, hbw2⟩
      refine hK _ _ hk2 ?_
      clear hK hHeld
      have hB2 : Below N w z2 := hB1.trans ((((below_box (lkC false)).trans (hb2.mono (by simp))).mono hNX1).trans hbw2)
      have hNX2 : N ≤ z2.heap.size := by rw [← hN]; exact hN ▸ hB2.size
      generalize z1.heap.size = sb
      exact key sb z2 ⟨x1, x2, hq3, i1, c1, i2, c2, hk2, hPX2, hB2, hNX2⟩
  clear hq2 hk1 hPX1 hB1 hNX1 x1 i1 c1
  intro sb2 z2 ⟨x1, x2, hq3, i1, c1, i2, c2, hk2, hPX2, hB2, hNX2⟩
  clear HH
  intro hHeld
  refine wpAnyH_take (i := 18) (v := ?v13x18) rfl (by kernel_rfl) (by kernel_rfl) (by kernel_rfl) (fun _ _ _ h => h) (Or.inl ⟨by rfl, ?hy13x18⟩) (by assumption) ?rest13x18
  case hy13x18 => intro w hSw; go_simp <;> with_reducible rfl
  simp only [Act.put, List.getElem_toArray, List.getElem_cons_zero, List.getElem_cons_succ, List.setIfInBounds_toArray, List.set_cons_zero, List.set_cons_succ]
  refine wpAnyH_take (i := 19) (v := ?v14x19) rfl (by kernel_rfl) (by kernel_rfl) (by kernel_rfl) (fun _ _ _ h => h) (Or.inl ⟨by rfl, ?hy14x19⟩) (by assumption) ?rest14x19
  case hy14x19 => intro w hSw; go_simp <;> with_reducible rfl
  simp only [Act.put, List.getElem_toArray, List.getElem_cons_zero, List.getElem_cons_succ, List.setIfInBounds_toArray, List.set_cons_zero, List.set_cons_succ]
  refine wpAnyH_take (i := 20) (v := ?v15x20) rfl (by kernel_rfl) (by kernel_rfl) (by kernel_rfl) (fun _ _ _ h => h) (Or.inl ⟨by rfl, ?hy15x20⟩) (by assumption) ?rest15x20
  case hy15x20 => intro w hSw; go_simp <;> with_reducible rfl
  simp only [Act.put, List.getElem_toArray, List.getElem_cons_zero, List.getElem_cons_succ, List.setIfInBounds_toArray, List.set_cons_zero, List.set_cons_succ]
  refine wpAnyH_take (i := 21) (v := ?v16x21) rfl (by kernel_rfl) (by kernel_rfl) (by kernel_rfl) (fun _ _ _ h => h) (Or.inl ⟨by rfl, ?hy16x21⟩) (by assumption) ?rest16x21
  case hy16x21 => intro w hSw; go_simp <;> with_reducible rfl
  simp only [Act.put, List.getElem_toArray, List.getElem_cons_zero, List.getElem_cons_succ, List.setIfInBounds_toArray, List.set_cons_zero, List.set_cons_succ]
  refine wpAnyH_take (i := 23) (v := (.agg #[.int .i32 0, .int .i64 1])) rfl (by kernel_rfl) (by kernel_rfl) (by kernel_rfl) (fun _ _ _ h => h) (Or.inl ⟨by rfl, ?hy17x23⟩) (by assumption) ?rest17x23
  case hy17x23 => intro w hSw; have s0 := cell_at (o := 0) hSw; have s1 := cell_at (o := 1) hSw; go_simp <;> with_reducible rfl
  simp only [Act.put, List.getElem_toArray, List.getElem_cons_zero, List.getElem_cons_succ, List.setIfInBounds_toArray, List.set_cons_zero, List.set_cons_succ]
  refine wpAnyH_take (i := 24) (v := ?v18x24) rfl (by kernel_rfl) (by kernel_rfl) (by kernel_rfl) (fun _ _ _ h => h) (Or.inl ⟨by rfl, ?hy18x24⟩) (by assumption) ?rest18x24
  case hy18x24 => intro w hSw; go_simp <;> with_reducible rfl
  simp only [Act.put, List.getElem_toArray, List.getElem_cons_zero, List.getElem_cons_succ, List.setIfInBounds_toArray, List.set_cons_zero, List.set_cons_succ]
  have HH := hide hHeld
  clear hHeld
  apply merge2 (C := fun _ z => ∃ x1 x2 x3 : Am, Lq P lb [x1, x2, x3] (0 + 1 + 1 + 1) z ∧ x1.id = (1, 0) ∧ x1.cl.map (·.2) = [((0, 1), false)] ∧ x2.id = (2, 0) ∧ x2.cl.map (·.2) = [((0, 1), false)] ∧ x3.id = (3, 0) ∧ x3.cl.map (·.2) = [((0, 1), true)] ∧ z.heap[kb]? = some kbC ∧ (∀ j, P j → j < z.heap.size) ∧ Below N w z ∧ N ≤ z.heap.size)
  · intro key
    have hHeld := unhide HH
    refine wpAnyH_ready (rs := [22, 25]) (by kernel_rfl) (by simp) ?_
    refine AllReadyH.cons rfl (fun K hK => ?_) (AllReadyH.cons rfl (fun K hK => ?_) AllReadyH.nil)
    · go_simp
      refine (id_any 3 z2).mono ?_
      rintro e ya3 ⟨rfl, ha3⟩
      have hka3 : ya3.heap[kb]? = some kbC := (ha3.block kb (lt_of hk2)).trans hk2
      refine hK _ _ hka3 ?_
      clear hK hHeld
      intro hHeld
      refine wpAnyH_ready (rs := [25]) (by kernel_rfl) (by simp) ?_
      refine AllReadyH.cons rfl (fun K hK => ?_) AllReadyH.nil
      go_simp
      have hkb3 : (ya3.alloc (lkC true)).heap[kb]? = some kbC := ((below_box (lkC true)).block kb (lt_of hka3)).trans hka3
      refine hK _ _ hkb3 ?_
      clear hK hHeld
      intro hHeld
      refine wpAnyH_ready (rs := [26]) (by kernel_rfl) (by simp) ?_
      refine AllReadyH.cons rfl (fun K hK => ?_) AllReadyH.nil
      go_simp
      refine (req_st (N := N) hq3 hPX2 (ha3.trans ((below_box (lkC true)).mono ha3.size)) ha3.size (heap_alloc_new ya3 _) (by omega) (by omega) (by simp [i1, i2]) (unhide HPN).2 hkb3 (unhide HPN).1).mono ?_
      rintro e z3 ⟨rfl, x3, hq4, i3, c3, hk3, hPX3, hbw3⟩
      refine hK _ _ hk3 ?_
      clear hK hHeld
      have hB3 : Below N w z3 := hB2.trans (((ha3.trans ((below_box (lkC true)).mono ha3.size)).mono hNX2).trans hbw3)
      have hNX3 : N ≤ z3.heap.size := by rw [← hN]; exact hN ▸ hB3.size
      generalize ya3.heap.size = sb
      exact key sb z3 ⟨x1, x2, x3, hq4, i1, c1, i2, c2, i3, c3, hk3, hPX3, hB3, hNX3⟩
    · go_simp
      have hkb3 : (z2.alloc (lkC true)).heap[kb]? = some kbC := ((below_box (lkC true)).block kb (lt_of hk2)).trans hk2
      refine hK _ _ hkb3 ?_
      clear hK hHeld
      intro hHeld
      refine wpAnyH_ready (rs := [22]) (by kernel_rfl) (by simp) ?_
      refine AllReadyH.cons rfl (fun K hK => ?_) AllReadyH.nil
      go_simp
      refine (id_any 3 (z2.alloc (lkC true))).mono ?_
      rintro e yb3 ⟨rfl, hb3⟩
      refine hK _ _ ((hb3.block kb (lt_of hkb3)).trans hkb3) ?_
      clear hK hHeld
      intro hHeld
      have hkc3 : yb3.heap[kb]? = some kbC := (hb3.block kb (lt_of hkb3)).trans hkb3
      have hsl3 : yb3.heap[z2.heap.size]? = some (lkC true) := (hb3.block _ (by simp)).trans (heap_alloc_new z2 _)
      refine wpAnyH_ready (rs := [26]) (by kernel_rfl) (by simp) ?_
      refine AllReadyH.cons rfl (fun K hK => ?_) AllReadyH.nil
      go_simp
      refine (req_st (N := N) hq3 hPX2 ((below_box (lkC true)).trans (hb3.mono (by simp))) (Nat.le_refl _) hsl3 (by omega) (by omega) (by simp [i1, i2]) (unhide HPN).2 hkc3 (unhide HPN).1).mono ?_
      rintro e z3 ⟨rfl, x3, hq4, i3, c3, hk3, hPX3, hbw3⟩
      refine hK _ _ hk3 ?_
      clear hK hHeld
      have hB3 : Below N w z3 := hB2.trans ((((below_box (lkC true)).trans (hb3.mono (by simp))).mono hNX2).trans hbw3)
      have hNX3 : N ≤ z3.heap.size := by rw [← hN]; exact hN ▸ hB3.size
      generalize z2.heap.size = sb
      exact key sb z3 ⟨x1, x2, x3, hq4, i1, c1, i2, c2, i3, c3, hk3, hPX3, hB3, hNX3⟩
  clear hq3 hk2 hPX2 hB2 hNX2 x1 i1 c1 x2 i2 c2
  intro sb3 z3 ⟨x1, x2, x3, hq4, i1, c1, i2, c2, i3, c3, hk3, hPX3, hB3, hNX3⟩
  clear HH
  intro hHeld
  refine wpAnyH_take (i := 27) (v := ?v19x27) rfl (by kernel_rfl) (by kernel_rfl) (by kernel_rfl) (fun _ _ _ h => h) (Or.inl ⟨by rfl, ?hy19x27⟩) (by assumption) ?rest19x27
  case hy19x27 => intro w hSw; go_simp <;> with_reducible rfl
  simp only [Act.put, List.getElem_toArray, List.getElem_cons_zero, List.getElem_cons_succ, List.setIfInBounds_toArray, List.set_cons_zero, List.set_cons_succ]
  refine wpAnyH_take (i := 28) (v := ?v20x28) rfl (by kernel_rfl) (by kernel_rfl) (by kernel_rfl) (fun _ _ _ h => h) (Or.inl ⟨by rfl, ?hy20x28⟩) (by assumption) ?rest20x28
  case hy20x28 => intro w hSw; go_simp <;> with_reducible rfl
  simp only [Act.put, List.getElem_toArray, List.getElem_cons_zero, List.getElem_cons_succ, List.setIfInBounds_toArray, List.set_cons_zero, List.set_cons_succ]
  refine wpAnyH_take (i := 29) (v := ?v21x29) rfl (by kernel_rfl) (by kernel_rfl) (by kernel_rfl) (fun _ _ _ h => h) (Or.inl ⟨by rfl, ?hy21x29⟩) (by assumption) ?rest21x29
  case hy21x29 => intro w hSw; go_simp <;> with_reducible rfl
  simp only [Act.put, List.getElem_toArray, List.getElem_cons_zero, List.getElem_cons_succ, List.setIfInBounds_toArray, List.set_cons_zero, List.set_cons_succ]
  refine wpAnyH_take (i := 30) (v := ?v22x30) rfl (by kernel_rfl) (by kernel_rfl) (by kernel_rfl) (fun _ _ _ h => h) (Or.inl ⟨by rfl, ?hy22x30⟩) (by assumption) ?rest22x30
  case hy22x30 => intro w hSw; go_simp <;> with_reducible rfl
  simp only [Act.put, List.getElem_toArray, List.getElem_cons_zero, List.getElem_cons_succ, List.setIfInBounds_toArray, List.set_cons_zero, List.set_cons_succ]
  have hT : Three x1 x2 x3 := ⟨i1, i2, i3, c1, c2, c3⟩
  replace hq4 : Lq P lb [x1, x2, x3] (0 + 1 + 1 + 1) z3 := hq4
  refine wpAnyH_ready (rs := [31]) (by kernel_rfl) (by simp) ?_
  refine AllReadyH.cons rfl (fun K hK => ?_) AllReadyH.nil
  go_simp
  refine (id_any 3 z3).mono ?_
  rintro e u1 ⟨rfl, hu1⟩
  refine hK _ _ ((hu1.block kb (lt_of hk3)).trans hk3) ?_
  clear hK hHeld
  intro hHeld
  have hq5 := hq4.below hu1
  have hk5 : u1.heap[kb]? = some kbC := (hu1.block kb (lt_of hk3)).trans hk3
  refine wpAnyH_ready (rs := [32]) (by kernel_rfl) (by simp) ?_
  refine AllReadyH.cons rfl (fun K hK => ?_) AllReadyH.nil
  go_simp
  refine (ready3 hq5 hT).mono ?_
  rintro e u2 ⟨rfl, hu2⟩
  refine hK _ _ ((hu2.block kb (lt_of hk5)).trans hk5) ?_
  clear hK hHeld
  intro hHeld
  have hq6 := hq5.below hu2
  have hk6 : u2.heap[kb]? = some kbC := (hu2.block kb (lt_of hk5)).trans hk5
  refine wpAnyH_take (i := 33) (v := ?v23x33) rfl (by kernel_rfl) (by kernel_rfl) (by kernel_rfl) (fun _ _ _ h => h) (Or.inl ⟨by rfl, ?hy23x33⟩) (by assumption) ?rest23x33
  case hy23x33 => intro w hSw; go_simp <;> with_reducible rfl
  simp only [Act.put, List.getElem_toArray, List.getElem_cons_zero, List.getElem_cons_succ, List.setIfInBounds_toArray, List.set_cons_zero, List.set_cons_succ]
  refine wpAnyH_take (i := 34) (v := ?v24x34) rfl (by kernel_rfl) (by kernel_rfl) (by kernel_rfl) (fun _ _ _ h => h) (Or.inl ⟨by rfl, ?hy24x34⟩) (by assumption) ?rest24x34
  case hy24x34 => intro w hSw; go_simp <;> with_reducible rfl
  simp only [Act.put, List.getElem_toArray, List.getElem_cons_zero, List.getElem_cons_succ, List.setIfInBounds_toArray, List.set_cons_zero, List.set_cons_succ]
  refine wpAnyH_take (i := 35) (v := ?v25x35) rfl (by kernel_rfl) (by kernel_rfl) (by kernel_rfl) (fun _ _ _ h => h) (Or.inl ⟨by rfl, ?hy25x35⟩) (by assumption) ?rest25x35
  case hy25x35 => intro w hSw; go_simp <;> with_reducible rfl
  simp only [Act.put, List.getElem_toArray, List.getElem_cons_zero, List.getElem_cons_succ, List.setIfInBounds_toArray, List.set_cons_zero, List.set_cons_succ]
  refine wpAnyH_ready (rs := [36]) (by kernel_rfl) (by simp) ?_
  refine AllReadyH.cons rfl (fun K hK => ?_) AllReadyH.nil
  go_simp
  refine (id_any 2 u2).mono ?_
  rintro e u3 ⟨rfl, hu3⟩
  refine hK _ _ ((hu3.block kb (lt_of hk6)).trans hk6) ?_
  clear hK hHeld
  intro hHeld
  have hq7 := hq6.below hu3
  have hk7 : u3.heap[kb]? = some kbC := (hu3.block kb (lt_of hk6)).trans hk6
  refine wpAnyH_ready (rs := [37]) (by kernel_rfl) (by simp) ?_
  refine AllReadyH.cons rfl (fun K hK => ?_) AllReadyH.nil
  go_simp
  refine (ready2 hq7 hT).mono ?_
  rintro e u4 ⟨rfl, hu4⟩
  refine hK _ _ ((hu4.block kb (lt_of hk7)).trans hk7) ?_
  clear hK hHeld
  intro hHeld
  have hq8 := hq7.below hu4
  refine wpAnyH_take (i := 38) (v := ?v26x38) rfl (by kernel_rfl) (by kernel_rfl) (by kernel_rfl) (fun _ _ _ h => h) (Or.inl ⟨by rfl, ?hy26x38⟩) (by assumption) ?rest26x38
  case hy26x38 => intro w hSw; go_simp <;> with_reducible rfl
  simp only [Act.put, List.getElem_toArray, List.getElem_cons_zero, List.getElem_cons_succ, List.setIfInBounds_toArray, List.set_cons_zero, List.set_cons_succ]
  refine wpAnyH_take (i := 39) (v := ?v27x39) rfl (by kernel_rfl) (by kernel_rfl) (by kernel_rfl) (fun _ _ _ h => h) (Or.inl ⟨by rfl, ?hy27x39⟩) (by assumption) ?rest27x39
  case hy27x39 => intro w hSw; go_simp <;> with_reducible rfl
  simp only [Act.put, List.getElem_toArray, List.getElem_cons_zero, List.getElem_cons_succ, List.setIfInBounds_toArray, List.set_cons_zero, List.set_cons_succ]
  refine wpAnyH_done (by kernel_rfl) ?_ _
  have s3 : z3.heap.size ≤ u4.heap.size := Nat.le_trans hu1.size (Nat.le_trans hu2.size (Nat.le_trans hu3.size hu4.size))
  have hB4 : Below N w u4 := hB3.trans ((hu1.mono hNX3).trans ((hu2.mono (Nat.le_trans hNX3 hu1.size)).trans ((hu3.mono (Nat.le_trans hNX3 (Nat.le_trans hu1.size hu2.size))).trans (hu4.mono (Nat.le_trans hNX3 (Nat.le_trans hu1.size (Nat.le_trans hu2.size hu3.size)))))))
  have hCu : Cu w N P lb [x1, x2, x3] u4 := ⟨hq8, fun j hj => Nat.lt_of_lt_of_le (hPX3 j hj) s3, hB4, by have := hB4.size; omega, (unhide HPN).1⟩
  clear hq1 hq4 hq5 hq6 hq7 hq8 hB4 hB3 hk3 hk5 hk6 hk7 hu1 hu2 hu3 hu4
  clear HX HZ hXs hHeld s3 hPX3 hNX3 hPX hX0 hbX hNX0 HPN
  go_wp2_with (first | (go_at_call 17; refine (id_any _ _).mono ?_; rintro e v ⟨rfl, hv⟩; replace hCe := hCe.step hv; clear hv) | (go_at_call 17; refine (id_any _ _).mono ?_; rintro e v ⟨rfl, hv⟩; replace hD := hD.step hv; clear hv) | (go_at_call 17; refine (id_any _ _).mono ?_; rintro e v ⟨rfl, hv⟩; replace hCu := hCu.step hv; clear hv) | (go_at_call 14; refine (hCu.rel1 hT).mono ?_; rintro e v ⟨ra, rc, rfl, hD⟩; clear hCu) | (go_at_call 14; refine (hD.rel2 hT).mono ?_; rintro e v ⟨rb, rd, rfl, hCe⟩; clear hD hT) | (go_at_call 32; refine hCe.eq.mono ?_; rintro e v ⟨rfl, hv⟩))
  go_ret
  exact ⟨rfl, hv⟩
end Go.Proofs.Yteenbebpdibbcaa
