/- One who asks joins; one lock more, and what give makes of it. -/
import Derived.Test.YteenbebpdibbcaaP5
namespace Go.Proofs.Yteenbebpdibbcaa
open Go.RowKit
set_option maxRecDepth 100000

theorem Qs_app (L M : List Am) (k : Ky) : Qs (L ++ M) k = Qs L k ++ Qs M k := List.flatMap_append
theorem Qs_one (a : Am) (k : Ky) : Qs [a] k = qF k a := by unfold Qs; simp
theorem LI.ak_none {S : Sto} {L : List Am} {pend : Nat → Nat} (h : LI S L pend) {p : Nat} (hp : S.ak p = none) : p ∉ L.map (·.ak) := fun c => by
  obtain ⟨a, ha, e⟩ := List.mem_map.1 c
  obtain ⟨A, h1, _⟩ := h.k.ak a ha
  rw [e, hp] at h1
  cases h1
theorem LI.ask {S S' : Sto} {L : List Am} {a : Am} (h : LI S L fun _ => 0) (hcl : a.cl = []) {n : Nat} (hn : (n : Int) ≤ 2199023255552) (hA : AI S' (L ++ [a])) (hno : S.ak a.ak = none) (hak : S'.ak = up S.ak a.ak ⟨a.id, a.num, .slice none 0 0, [], n⟩) (h1 : S'.cs = S.cs) (h2 : S'.ln = S.ln) (h3 : S'.Q = S.Q) (hok : I.OkK a.id) :
    LI S' (L ++ [a]) fun b => if b = a.ak then n else 0 := by
  have hhd : ∀ x, hdS S' x = hdS S x := fun x => by unfold hdS; rw [h1]
  have hne : ∀ b ∈ L, b.ak ≠ a.ak := fun b hb e => h.ak_none hno (List.mem_map.2 ⟨b, hb, e⟩)
  have hin : ∀ {b : Am}, b ∈ L ++ [a] → b ∈ L ∨ b = a := fun {b} hb => by
    rcases List.mem_append.1 hb with c | c
    · exact .inl c
    · exact .inr (by simpa using c)
  have hQ : Qs (L ++ [a]) = Qs L := funext fun k => by rw [Qs_app, Qs_one]; unfold qF; rw [hcl]; simp
  refine ⟨hA, ?_, ⟨fun b hb => ?_, fun b hb => ?_, fun b hb b' hb' p hp hp' => ?_, fun b hb b' hb' e => nodup_inj hA.aks hb hb' e, fun b A hb => ?_⟩, fun p c hc => ?_, fun p c x hc hx => ?_, fun b hb => ?_, fun b hb => ?_⟩
  · rw [hQ]; exact h.q.of h1 h2 h3
  · rcases hin hb with c | rfl
    · obtain ⟨A, k1, k2, k3, k4, k5⟩ := h.k.ak b c
      refine ⟨A, by rw [hak, up_other _ _ (hne b c)]; exact k1, k2, k3, k4, ?_⟩
      rw [k5, cnt_same (S := S) (S' := S') fun x _ => hhd _, if_neg (hne b c)]
    · refine ⟨_, by rw [hak]; exact up_same _ _ _, rfl, rfl, by rw [hcl]; rfl, ?_⟩
      show (n : Int) = _
      rw [hcl, if_pos rfl]; simp [cnt]
  · rcases hin hb with c | rfl
    · exact h.k.n1 b c
    · rw [hcl]; simp
  · rcases hin hb with c | rfl
    · rcases hin hb' with c' | rfl
      · exact h.k.n2 b c b' c' p hp hp'
      · rw [hcl] at hp'; simp at hp'
    · rw [hcl] at hp; simp at hp
  · rw [hak] at hb
    by_cases e : b = a.ak
    · rw [e, up_same] at hb
      injection hb with hb
      subst hb
      show 0 ≤ (n : Int) ∧ (n : Int) ≤ _
      omega
    · rw [up_other _ _ e] at hb
      exact h.k.rg b A hb
  · rw [h1] at hc
    obtain ⟨A, hA'⟩ := h.c1 p c hc
    rw [hak]
    by_cases e : c.by' = a.ak
    · exact ⟨_, by rw [e]; exact up_same _ _ _⟩
    · exact ⟨A, (up_other _ _ e).trans hA'⟩
  · rw [h1] at hc ⊢
    exact h.c2 p c x hc hx
  · rcases hin hb with c | rfl
    · exact h.ok b c
    · exact ⟨hok, by rw [hcl]; simp⟩
  · rcases hin hb with c | rfl
    · exact h.kd b c
    · rw [hcl]; simp
/-- One lock more for who stands last, given what may be given. -/
theorem LI.claim {S S1 : Sto} {L : List Am} {a : Am} {pend : Nat → Nat} {m : Nat} (h : LI S (L ++ [a]) pend) (hm : pend a.ak = m + 1) {p : Nat} {k0 : Ky} {e : Bool} {ah : Option Nat} {v : Value} (hp : S.cs p = none)
    (hJ : QJ S1 (addQ (Qs (L ++ [a])) k0 ⟨p, a.ak, e⟩) k0 (hs none ((Qs (L ++ [a]) k0).map Qe.e) ++ [false])) (hcp : S1.cs p = some ⟨a.ak, k0, e, false, ah, none⟩) (hah : ∀ x, ah = some x → ∃ d, S.cs x = some d)
    (hkeep : ∀ z c, S.cs z = some c → ∃ be, S1.cs z = some { c with be := be }) (hback : ∀ z c', S1.cs z = some c' → z ≠ p → ∃ c, S.cs z = some c ∧ c'.by' = c.by' ∧ c'.ah = c.ah)
    (h1 : S1.sp = S.sp) (h2 : S1.fi = S.fi) (h3 : S1.la = S.la) (h4 : S1.P = S.P) (h5 : S1.asked = S.asked) (hak : S1.ak = md S.ak a.ak fun A => { A with v := v, cl := A.cl ++ [p] }) (hok : OkK k0) (hkd : k0 ∉ a.cl.map (·.2.1)) :
    LI (giv S1 [p]).1 (L ++ [{ a with cl := a.cl ++ [(p, (k0, e))] }]) (fun b => if b = a.ak then m else pend b) := by
  obtain ⟨a', ha'⟩ : ∃ a', ({ a with cl := a.cl ++ [(p, (k0, e))] } : Am) = a' := ⟨_, rfl⟩
  have hak' : a'.ak = a.ak := by rw [← ha']
  have hcl' : a'.cl = a.cl ++ [(p, (k0, e))] := by rw [← ha']
  have hQ : Qs (L ++ [a']) = addQ (Qs (L ++ [a])) k0 ⟨p, a.ak, e⟩ := funext fun k => by
    unfold addQ
    rw [Qs_app, Qs_one, Qs_app, Qs_app, Qs_one, Qs_one]
    unfold qF
    rw [hcl', List.filterMap_append, hak']
    by_cases hk : k = k0
    · rw [if_pos hk, hk]; simp
    · rw [if_neg hk]; simp [Ne.symm hk]
  have haL : a ∈ L ++ [a] := by simp
  have hin : ∀ {b : Am}, b ∈ L ++ [a'] → (b ∈ L ∧ b ∈ L ++ [a]) ∨ b = a' := fun {b} hb => by
    rcases List.mem_append.1 hb with c | c
    · exact .inl ⟨c, List.mem_append_left _ c⟩
    · exact .inr (by simpa using c)
  have hneL : ∀ b ∈ L, b.ak ≠ a.ak := fun b hb e => by
    have := h.a.aks
    rw [List.map_append, List.nodup_append] at this
    exact this.2.2 b.ak (List.mem_map.2 ⟨b, hb, rfl⟩) a.ak (by simp) e
  have hfresh : ∀ b ∈ L ++ [a], p ∉ b.cl.map (·.1) := fun b hb c => by
    obtain ⟨x, hx, ex⟩ := List.mem_map.1 c
    obtain ⟨_, _, _, hc⟩ := h.q.claim hb hx
    rw [ex, hp] at hc
    cases hc
  have hhd : ∀ b ∈ L ++ [a], ∀ x ∈ b.cl, hdS S1 x.1 = hdS S x.1 := fun b hb x hx => by
    obtain ⟨hd, ah', be, hc⟩ := h.q.claim hb hx
    obtain ⟨be', hc'⟩ := hkeep _ _ hc
    unfold hdS
    rw [hc, hc']
  have hhp : hdS S1 p = false := by unfold hdS; rw [hcp]
  have hoth : ∀ b, b ≠ a.ak → S1.ak b = S.ak b := fun b hb => by rw [hak]; exact md_far _ _ hb
  have hAI : AI S1 (L ++ [a']) := by
    rw [← ha']
    exact AI.cl _ h.a h1 h2 h3 h4 h5
  have hL1 : Lki S1 (L ++ [a']) (fun b => if b = a.ak then m else pend b) := by
    refine ⟨fun b hb => ?_, fun b hb => ?_, fun b hb b' hb' y hy hy' => ?_, fun b hb b' hb' e => nodup_inj hAI.aks hb hb' e, fun b A hb => ?_⟩
    · rcases hin hb with ⟨c, c'⟩ | rfl
      · obtain ⟨A, k1, k2, k3, k4, k5⟩ := h.k.ak b c'
        refine ⟨A, (hoth _ (hneL b c)).trans k1, k2, k3, k4, ?_⟩
        rw [k5, cnt_same (S := S) (S' := S1) (hhd b c'), if_neg (hneL b c)]
      · obtain ⟨A, k1, k2, k3, k4, k5⟩ := h.k.ak a haL
        refine ⟨{ A with v := v, cl := A.cl ++ [p] }, by rw [hak', hak, md_at, k1]; rfl, by rw [k2, ← ha'], by rw [k3, ← ha'], ?_, ?_⟩
        · show A.cl ++ [p] = _
          rw [k4, hcl']; simp
        · show A.lacks = _
          rw [k5, hcl', cnt_append, cnt_same (S := S) (S' := S1) (hhd a haL), hak', if_pos rfl, hm, cnt_cons, hhp]
          simp [cnt]
          omega
    · rcases hin hb with ⟨_, c⟩ | rfl
      · exact h.k.n1 b c
      · rw [hcl', List.map_append, List.nodup_append]
        exact ⟨h.k.n1 a haL, by simp, fun u hu w hw e => by simp at hw; exact hfresh a haL (by rw [← hw, ← e]; exact hu)⟩
    · have hsplit : ∀ y, y ∈ a'.cl.map (·.1) → y ∈ a.cl.map (·.1) ∨ y = p := fun y hy => by
        rw [hcl', List.map_append, List.mem_append] at hy
        rcases hy with c | c
        · exact .inl c
        · exact .inr (by simpa using c)
      rcases hin hb with ⟨c, c'⟩ | rfl
      · rcases hin hb' with ⟨d, d'⟩ | rfl
        · exact h.k.n2 b c' b' d' y hy hy'
        · rcases hsplit y hy' with e' | e'
          · exact absurd (h.k.n2 b c' a haL y hy e') (fun e => hneL b c (by rw [e]))
          · exact absurd (e' ▸ hy) (hfresh b c')
      · rcases hin hb' with ⟨d, d'⟩ | rfl
        · rcases hsplit y hy with e' | e'
          · exact absurd (h.k.n2 b' d' a haL y hy' e') (fun e => hneL b' d (by rw [e]))
          · exact absurd (e' ▸ hy') (hfresh b' d')
        · rfl
    · by_cases eb : b = a.ak
      · obtain ⟨A0, k1, _⟩ := h.k.ak a haL
        rw [eb, hak, md_at, k1] at hb
        injection hb with hb
        subst hb
        exact (h.k.rg _ _ k1 : 0 ≤ A0.lacks ∧ A0.lacks ≤ _)
      · rw [hoth b eb] at hb
        exact h.k.rg b A hb
  rw [ha']
  have ha'L : a' ∈ L ++ [a'] := by simp
  obtain ⟨g1, _, _, _⟩ := giv_lk [p] S1 hL1 (fun y hy => by
    simp only [List.mem_singleton] at hy
    subst hy
    exact ⟨_, hcp, a', ha'L, hak', by rw [hcl']; simp⟩) (by simp)
  obtain ⟨s1, s2, s3, s4, s5, s6, s7⟩ := giv_same [p] S1
  obtain ⟨d1, d2, d3⟩ := giv_dom [p] S1
  refine ⟨?_, ?_, g1, fun y c hc => ?_, fun y c x hc hx => ?_, fun b hb => ?_, fun b hb => ?_⟩
  · rw [← ha'] at hAI ⊢
    exact AI.cl (a := { a with cl := a.cl ++ [(p, (k0, e))] }) _ hAI s1 s5 s6 s4 s7
  · rw [hQ]; exact join_giv hJ
  · obtain ⟨c0, k1, k2, _⟩ := d3 y c hc
    rw [k2]
    by_cases ey : y = p
    · rw [ey, hcp] at k1
      injection k1 with k1
      subst k1
      obtain ⟨A, q1, _⟩ := hL1.ak a' ha'L
      rw [hak'] at q1
      obtain ⟨A', q2, _⟩ := d1 _ _ q1
      exact ⟨A', q2⟩
    · obtain ⟨c1, q1, q2, _⟩ := hback y c0 k1 ey
      rw [q2]
      obtain ⟨A, q3⟩ := h.c1 y c1 q1
      have : ∃ A', S1.ak c1.by' = some A' := by
        by_cases eb : c1.by' = a.ak
        · rw [hak, eb, md_at]; rw [eb] at q3; rw [q3]; exact ⟨_, rfl⟩
        · exact ⟨A, (hoth _ eb).trans q3⟩
      obtain ⟨A', q4⟩ := this
      obtain ⟨A'', q5, _⟩ := d1 _ _ q4
      exact ⟨A'', q5⟩
  · obtain ⟨c0, k1, _, k3⟩ := d3 y c hc
    rw [k3] at hx
    have : ∃ d, S.cs x = some d := by
      by_cases ey : y = p
      · rw [ey, hcp] at k1
        injection k1 with k1
        subst k1
        exact hah x hx
      · obtain ⟨c1, q1, _, q3⟩ := hback y c0 k1 ey
        exact h.c2 y c1 x q1 (q3 ▸ hx)
    obtain ⟨d, hd⟩ := this
    obtain ⟨be, hd'⟩ := hkeep x d hd
    obtain ⟨hh, hd''⟩ := d2 _ _ hd'
    exact ⟨_, hd''⟩
  · rcases hin hb with ⟨_, c⟩ | rfl
    · exact h.ok b c
    · have := h.ok a haL
      refine ⟨by rw [← ha']; exact this.1, fun c hc => ?_⟩
      rw [hcl', List.mem_append] at hc
      rcases hc with c' | c'
      · exact this.2 c c'
      · simp only [List.mem_singleton] at c'
        rw [c']; exact hok
  · rcases hin hb with ⟨_, c⟩ | rfl
    · exact h.kd b c
    · rw [hcl', List.map_append, List.nodup_append]
      exact ⟨h.kd a haL, by simp, fun u hu w hw e => hkd (by simp at hw; rw [← hw, ← e]; exact hu)⟩
end Go.Proofs.Yteenbebpdibbcaa
