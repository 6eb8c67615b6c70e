/- All queues, pure: a claim leaves. -/
import Derived.Test.YteenbebpdibbcaaP2
namespace Go.Proofs.Yteenbebpdibbcaa
open Go.RowKit
set_option maxRecDepth 100000

theorem md_far {α : Type} (f : Nat → Option α) {b x : Nat} (g : α → α) (h : x ≠ b) : md f b g x = f x := by unfold md; rw [if_neg h]
theorem md_at {α : Type} (f : Nat → Option α) (b : Nat) (g : α → α) : md f b g b = (f b).map g := by unfold md; rw [if_pos rfl]
theorem unlC_far (S : Sto) (q : Nat) {ah be : Option Nat} {z : Nat} (h1 : ah ≠ some z) (h2 : be ≠ some z) : (unlC S q ah be).cs z = S.cs z := by
  cases ah with
  | none =>
    cases be with
    | none => rfl
    | some y => exact md_far _ _ fun e => h2 (by rw [e])
  | some x =>
    cases be with
    | none => exact md_far _ _ fun e => h1 (by rw [e])
    | some y => exact (md_far _ _ fun e => h2 (by rw [e])).trans (md_far _ _ fun e => h1 (by rw [e]))
theorem unlC_ah (S : Sto) (q : Nat) {be : Option Nat} {x : Nat} (h : be ≠ some x) : (unlC S q (some x) be).cs x = (S.cs x).map fun c => { c with be := be } := by
  cases be with
  | none => exact md_at _ _ _
  | some y => exact (md_far _ _ fun e => h (by rw [e])).trans (md_at _ _ _)
theorem unlC_be (S : Sto) (q : Nat) {ah : Option Nat} {y : Nat} (h : ah ≠ some y) : (unlC S q ah (some y)).cs y = (S.cs y).map fun c => { c with ah := ah } := by
  cases ah with
  | none => exact md_at _ _ _
  | some x =>
    refine (md_at _ _ _).trans ?_
    exact congrArg _ (md_far _ _ fun e => h (by rw [e]))
theorem unlC_line (S : Sto) {q : Nat} {n : Ln} (hq : S.ln q = some n) (ah be : Option Nat) : (unlC S q ah be).ln q = some ⟨if ah = none then be else n.f, if be = none then ah else n.l⟩ := by
  cases ah <;> cases be <;> simp [unlC, unlC1, unlC2, md, hq]
theorem unlC_lines (S : Sto) {q z : Nat} (hz : z ≠ q) (ah be : Option Nat) : (unlC S q ah be).ln z = S.ln z := by
  cases ah <;> cases be <;> simp [unlC, unlC1, unlC2, md, hz]
theorem unlC_rest (S : Sto) (q : Nat) (ah be : Option Nat) : (unlC S q ah be).sp = S.sp ∧ (unlC S q ah be).ak = S.ak ∧ (unlC S q ah be).P = S.P ∧ (unlC S q ah be).fi = S.fi ∧ (unlC S q ah be).la = S.la ∧ (unlC S q ah be).asked = S.asked := by
  cases ah <;> cases be <;> exact ⟨rfl, rfl, rfl, rfl, rfl, rfl⟩
theorem lvS_cs (S : Sto) (q : Nat) (c : Cl) : (lvS S q c).cs = (unlC S q c.ah c.be).cs := by unfold lvS; split <;> rfl
theorem lvS_ln (S : Sto) (q : Nat) (c : Cl) : (lvS S q c).ln = (unlC S q c.ah c.be).ln := by unfold lvS; split <;> rfl
theorem lvS_rest (S : Sto) (q : Nat) (c : Cl) : (lvS S q c).sp = S.sp ∧ (lvS S q c).ak = S.ak ∧ (lvS S q c).P = S.P ∧ (lvS S q c).fi = S.fi ∧ (lvS S q c).la = S.la ∧ (lvS S q c).asked = S.asked := by
  unfold lvS
  split <;> exact unlC_rest S q c.ah c.be
theorem lst_ne : ∀ {l : List Qe} {ah ah' : Option Nat}, l ≠ [] → lst ah l = lst ah' l
  | [], _, _, h => absurd rfl h
  | _ :: _, _, _, _ => rfl
theorem lst_app : ∀ (l m : List Qe) (ah : Option Nat), lst ah (l ++ m) = lst (lst ah l) m
  | [], _, _ => rfl
  | _ :: r, m, _ => lst_app r m _
theorem nxt_none {l : List Qe} : nxt l none = none ↔ l = [] := by cases l <;> simp [nxt]
theorem lst_none {l : List Qe} : lst none l = none ↔ l = [] := by
  refine ⟨fun h => ?_, fun h => by rw [h]; rfl⟩
  cases l with
  | nil => rfl
  | cons x r =>
    obtain ⟨z, _, e⟩ := lst_mem (l := x :: r) (ah := none) (by simp)
    rw [e] at h; cases h
theorem nxt_mem : ∀ {l : List Qe} {y : Nat}, nxt l none = some y → ∃ x ∈ l, x.p = y
  | x :: _, _, h => ⟨x, by simp, Option.some.inj h⟩
/-- What stands in the middle of a queue. -/
theorem Chn.mid {k : Ky} {cs : Nat → Option Cl} {xs ys : List Qe} {x : Qe} {f : List Bool} (h : Chn k cs none (xs ++ x :: ys) f none) : ∃ hd, cs x.p = some ⟨x.a, k, x.e, hd, lst none xs, nxt ys none⟩ := by
  have hl := h.len
  obtain ⟨f1, f2, rfl, h1⟩ : ∃ f1 f2, f = f1 ++ f2 ∧ xs.length = f1.length := ⟨f.take xs.length, f.drop xs.length, (List.take_append_drop _ _).symm, by rw [List.length_take]; rw [List.length_append] at hl; omega⟩
  rw [Chn.append h1] at h
  cases f2 with
  | nil => exact h.2.elim
  | cons g t => exact ⟨g, h.2.1⟩
/-- A claim has left its queue; give has not been called yet. -/
theorem leave_qj {S : Sto} {qs : Ky → List Qe} (h : QI S qs) {k0 : Ky} {xs ys : List Qe} {x : Qe} (hx : qs k0 = xs ++ x :: ys) {q : Nat} (hQ : S.Q k0 = some q) {hd : Bool} :
    QJ (lvS S q ⟨x.a, k0, x.e, hd, lst none xs, nxt ys none⟩) (setQ qs k0 (xs ++ ys)) k0 (hs none (xs.map Qe.e) ++ hs (some (x.e, mayP (lpr none (xs.map Qe.e)) x.e)) (ys.map Qe.e)) := by
  have hc := h.chn k0
  have hn := (h k0).nd k0
  rw [hx] at hc hn
  rw [List.map_append, hs_append, Chn.append (by rw [hs_len, List.length_map])] at hc
  obtain ⟨c1, c2⟩ := hc
  rw [List.map_append, List.map_cons, List.nodup_append] at hn
  obtain ⟨n1, n2, n3⟩ := hn
  rw [List.nodup_cons] at n2
  obtain ⟨_, q', hQ', hq'⟩ : qs k0 ≠ [] ∧ ∃ q, S.Q k0 = some q ∧ S.ln q = some ⟨nxt (qs k0) none, lst none (qs k0)⟩ := by
    rcases (h k0).qq k0 with ⟨_, c⟩ | c
    · rw [hQ] at c; cases c
    · exact c
  rw [hQ] at hQ'
  injection hQ' with hQ'
  subst hQ'
  rw [hx] at hq'
  have hline := unlC_line S hq' (lst none xs) (nxt ys none)
  have hln : (unlC S q (lst none xs) (nxt ys none)).ln q = some ⟨nxt (xs ++ ys) none, lst none (xs ++ ys)⟩ := by
    rw [hline]
    have e1 : (if lst none xs = none then nxt ys none else nxt (xs ++ x :: ys) none) = nxt (xs ++ ys) none := by
      by_cases hxs : xs = []
      · subst hxs; rfl
      · rw [if_neg (fun c => hxs (lst_none.1 c)), nxt_append, nxt_append]
        cases xs with
        | nil => exact absurd rfl hxs
        | cons u r => rfl
    have e2 : (if nxt ys none = none then lst none xs else lst none (xs ++ x :: ys)) = lst none (xs ++ ys) := by
      by_cases hys : ys = []
      · subst hys; rw [List.append_nil]; rfl
      · rw [if_neg (fun c => hys (nxt_none.1 c)), lst_app, lst_app]
        exact lst_ne hys
    rw [e1, e2]
  -- whom the two ways onward change
  have hahm : ∀ z, lst none xs = some z → z ∈ xs.map Qe.p := fun z hz => by
    have hne : xs ≠ [] := fun c => by rw [c] at hz; cases hz
    obtain ⟨u, hu, e⟩ := lst_mem (l := xs) (ah := none) hne
    rw [hz] at e
    exact List.mem_map.2 ⟨u, hu, (Option.some.inj e).symm⟩
  have hbem : ∀ z, nxt ys none = some z → z ∈ ys.map Qe.p := fun z hz => by
    obtain ⟨u, hu, e⟩ := nxt_mem hz
    exact List.mem_map.2 ⟨u, hu, e⟩
  have hdis : ∀ z, z ∈ xs.map Qe.p → z ∈ ys.map Qe.p → False := fun z h1 h2 => n3 z h1 z (List.mem_cons_of_mem _ h2) rfl
  have hother : ∀ k, k ≠ k0 → Chn k (unlC S q (lst none xs) (nxt ys none)).cs none (qs k) (hs none ((qs k).map Qe.e)) none := fun k hk => (h.chn k).keep fun u hu => by
    refine unlC_far S q (fun e => ?_) (fun e => ?_)
    · obtain ⟨v, hv, e'⟩ := List.mem_map.1 (hahm _ e)
      exact hk (qe_key (h.chn k) (h.chn k0) hu (hx ▸ List.mem_append_left _ hv) e'.symm)
    · obtain ⟨v, hv, e'⟩ := List.mem_map.1 (hbem _ e)
      exact hk (qe_key (h.chn k) (h.chn k0) hu (hx ▸ List.mem_append_right _ (List.mem_cons_of_mem _ hv)) e'.symm)
  have hown : Chn k0 (unlC S q (lst none xs) (nxt ys none)).cs none (xs ++ ys) (hs none (xs.map Qe.e) ++ hs (some (x.e, mayP (lpr none (xs.map Qe.e)) x.e)) (ys.map Qe.e)) none := by
    rw [Chn.append (by rw [hs_len, List.length_map])]
    constructor
    · by_cases hxs : xs = []
      · subst hxs; exact trivial
      · obtain ⟨z, hz⟩ : ∃ z, lst none xs = some z := by
          obtain ⟨u, _, e⟩ := lst_mem (l := xs) (ah := none) hxs
          exact ⟨_, e⟩
        refine c1.setEnd hxs hz n1 (fun y hy hyz => unlC_far S q (fun e => hyz (by rw [hz] at e; exact (Option.some.inj e).symm)) fun e => hdis _ (List.mem_map.2 ⟨y, hy, rfl⟩) (hbem _ e)) ?_
        rw [hz]
        exact unlC_ah S q fun e => hdis z (hahm z hz) (hbem z e)
    · have c3 := c2.2
      refine c3.setHead n2.2 (fun y hy => ?_) (fun y hy hne => unlC_far S q (fun e => hdis _ (hahm _ e) (List.mem_map.2 ⟨y, hy, rfl⟩)) hne)
      rw [hy]
      exact unlC_be S q fun e => hdis y (hahm y e) (hbem y hy)
  have hQn : ∀ k, k ≠ k0 → (lvS S q ⟨x.a, k0, x.e, hd, lst none xs, nxt ys none⟩).Q k = S.Q k := fun k hk => by
    unfold lvS
    split
    · show (if k = k0 then none else (unlC S q (lst none xs) (nxt ys none)).Q k) = _
      rw [if_neg hk, unlC_Q]
    · show (unlC S q (lst none xs) (nxt ys none)).Q k = _
      rw [unlC_Q]
  have hbind : ((unlC S q (lst none xs) (nxt ys none)).ln q).bind Ln.f = nxt (xs ++ ys) none := by rw [hln]; rfl
  have hQ0 : (xs ++ ys = [] → (lvS S q ⟨x.a, k0, x.e, hd, lst none xs, nxt ys none⟩).Q k0 = none) ∧ (xs ++ ys ≠ [] → (lvS S q ⟨x.a, k0, x.e, hd, lst none xs, nxt ys none⟩).Q k0 = some q) := by
    refine ⟨fun e => ?_, fun e => ?_⟩
    · unfold lvS
      rw [if_pos (by rw [hbind, e]; rfl)]
      show (if k0 = k0 then none else _) = _
      rw [if_pos rfl]
    · unfold lvS
      rw [if_neg (by rw [hbind]; exact fun c => e (nxt_none.1 c))]
      show (unlC S q (lst none xs) (nxt ys none)).Q k0 = _
      rw [unlC_Q]; exact hQ
  refine ⟨fun k hk => ?_, ?_, fun k => ?_, fun k k' q' e1 e2 => ?_, fun k => ?_⟩
  · rw [lvS_cs]; unfold setQ; rw [if_neg hk]; exact hother k hk
  · rw [lvS_cs]; unfold setQ; rw [if_pos rfl]; exact hown
  · rw [lvS_ln]
    unfold setQ
    by_cases hk : k = k0
    · rw [if_pos hk, hk]
      by_cases hz : xs ++ ys = []
      · exact .inl ⟨hz, hQ0.1 hz⟩
      · exact .inr ⟨hz, q, hQ0.2 hz, hln⟩
    · rw [if_neg hk, hQn k hk]
      rcases (h k0).qq k with ⟨c1, c2⟩ | ⟨c1, q2, c2, c3⟩
      · exact .inl ⟨c1, c2⟩
      · exact .inr ⟨c1, q2, c2, (unlC_lines S (fun c : q2 = q => hk ((h k0).inj _ _ _ (c ▸ c2) hQ)) _ _).trans c3⟩
  · have back : ∀ k, (lvS S q ⟨x.a, k0, x.e, hd, lst none xs, nxt ys none⟩).Q k = some q' → S.Q k = some q' := fun k e => by
      by_cases hk : k = k0
      · subst hk
        by_cases hz : xs ++ ys = []
        · rw [hQ0.1 hz] at e; cases e
        · rw [hQ0.2 hz] at e; rw [hQ]; exact e
      · rwa [hQn k hk] at e
    exact (h k0).inj k k' q' (back k e1) (back k' e2)
  · unfold setQ
    by_cases hk : k = k0
    · rw [if_pos hk, List.map_append, List.nodup_append]
      exact ⟨n1, n2.2, fun a ha b hb e => hdis a ha (e ▸ hb)⟩
    · rw [if_neg hk]; exact (h k0).nd k
/-- A claim has left its queue, and those behind it were given what they may have. -/
theorem leave_giv {S : Sto} {qs : Ky → List Qe} (h : QI S qs) {k0 : Ky} {xs ys : List Qe} {x : Qe} (hx : qs k0 = xs ++ x :: ys) {q : Nat} (hQ : S.Q k0 = some q) {hd : Bool} :
    QI (giv (lvS S q ⟨x.a, k0, x.e, hd, lst none xs, nxt ys none⟩) (ys.map Qe.p)).1 (setQ qs k0 (xs ++ ys)) :=
  giv_qj (leave_qj h hx hQ) (by unfold setQ; rw [if_pos rfl]) (oldOk_left _ _ _)
end Go.Proofs.Yteenbebpdibbcaa
