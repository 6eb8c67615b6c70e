/- queue and join, whichever queue it is. -/
import Derived.Test.YteenbebpdibbcaaT0
namespace Go.Proofs.Yteenbebpdibbcaa
open Go.RowKit
set_option maxRecDepth 100000

/-- The store behind queue. -/
def Que (S Sq : Sto) (k0 : Ky) (q : Nat) : Prop := (S.Q k0 = none ∧ S.ln q = none ∧ Sq = { S with ln := up S.ln q ⟨none, none⟩, Q := fun x => if x = k0 then some q else S.Q x }) ∨ (S.Q k0 = some q ∧ Sq = S)
/-- The store behind join. -/
structure Joi (S Sj : Sto) (qs : Ky → List Qe) (k0 : Ky) (p a : Nat) (e : Bool) (ah : Option Nat) : Prop where
  no : S.cs p = none
  J : QJ Sj (addQ qs k0 ⟨p, a, e⟩) k0 (hs none ((qs k0).map Qe.e) ++ [false])
  cp : Sj.cs p = some ⟨a, k0, e, false, ah, none⟩
  ah : ∀ x, ah = some x → ∃ d, S.cs x = some d
  keep : ∀ z c, S.cs z = some c → ∃ be, Sj.cs z = some { c with be := be }
  back : ∀ z c', Sj.cs z = some c' → z ≠ p → ∃ c, S.cs z = some c ∧ c'.by' = c.by' ∧ c'.ah = c.ah
  rest : Sj.sp = S.sp ∧ Sj.fi = S.fi ∧ Sj.la = S.la ∧ Sj.P = S.P ∧ Sj.asked = S.asked ∧ Sj.ak = S.ak
section
variable {B : Nat → Prop} {lb mq mp : Nat} {w : World} {S : Sto}
theorem queue_any (h : Mem B lb mq mp w S) (hB : ∀ j, w.heap.size ≤ j → B j) (a b : Int) (hk : OkK (a, b)) :
    Calls Try.prog 44 #[PN lb, .agg #[.int .i32 a, .int .i64 b]] w fun e w' => ∃ q Sq, e = .returned (PN q) ∧ Que S Sq (a, b) q ∧ Mem B lb mq mp w' Sq ∧ Upd B w.heap.size w w' := by
  cases hq : S.Q (a, b) with
  | none => exact (queue_new h hB a b hk hq).mono fun e w' ⟨q, h1, h2, h3, h4⟩ => ⟨q, _, h1, .inl ⟨hq, h2, rfl⟩, h3, h4⟩
  | some q => exact (queue_has h a b hk hq).mono fun e w' ⟨h1, h2⟩ => ⟨q, S, h1, .inr ⟨hq, rfl⟩, h.below h2, Upd.of h2⟩
theorem join_any {Sq : Sto} {k1 k2 : Int} {q : Nat} (hQ : Que S Sq (k1, k2) q) {qs : Ky → List Qe} (hq : QI S qs) (h : Mem B lb mq mp w Sq) (hB : ∀ j, w.heap.size ≤ j → B j) (a : Nat) (ex : Bool) :
    Calls Try.prog 45 #[PN q, .agg #[PN a, .int .i32 k1, .int .i64 k2, .bool ex, .bool false]] w fun e w' => ∃ p Sj ah, e = .returned (PN p) ∧ Joi S Sj qs (k1, k2) p a ex ah ∧ Mem B lb mq mp w' Sj ∧ Upd B w.heap.size w w' := by
  rcases hQ with ⟨h0, h1, rfl⟩ | ⟨h0, rfl⟩
  · refine (joinC_new h hB (up_same _ _ _) a k1 k2 ex false).mono fun e w' ⟨p, e1, e2, _, e3, e4⟩ => ⟨p, _, none, e1, ?_, e3, e4⟩
    have hnil : qs (k1, k2) = [] := by
      rcases (hq (k1, k2)).qq (k1, k2) with ⟨c, _⟩ | ⟨_, q', c, _⟩
      · exact c
      · rw [h0] at c; cases c
    replace e2 : S.cs p = none := e2
    have hJ := join_new hq hnil (e := ex) (h0' := false) (a := a) h1 e2
    refine ⟨e2, hJ.of rfl (by show up (up S.ln q _) q _ = _; rw [up_up]) rfl, up_same _ _ _, fun x hx => (by cases hx), fun z c hz => ⟨c.be, ?_⟩, fun z c' hz hzp => ?_, rfl, rfl, rfl, rfl, rfl, rfl⟩
    · exact (up_other _ _ (fun c => by rw [c, e2] at hz; cases hz)).trans hz
    · exact ⟨c', (up_other S.cs _ hzp).symm.trans hz, rfl, rfl⟩
  · obtain ⟨hne, q', c1, c2⟩ : qs (k1, k2) ≠ [] ∧ ∃ q, Sq.Q (k1, k2) = some q ∧ Sq.ln q = some ⟨nxt (qs (k1, k2)) none, lst none (qs (k1, k2))⟩ := by
      rcases (hq (k1, k2)).qq (k1, k2) with ⟨_, c⟩ | c
      · rw [h0] at c; cases c
      · exact c
    rw [h0] at c1
    obtain rfl := Option.some.inj c1
    obtain ⟨u, hu, eu⟩ := lst_mem (l := qs (k1, k2)) (ah := none) hne
    rw [eu] at c2
    obtain ⟨hd, ah', be', hcl⟩ := (hq.chn (k1, k2)).mem u hu
    refine (joinC_app h hB hcl c2 a k1 k2 ex false).mono fun e w' ⟨p, e1, e2, _, e3, e4⟩ => ⟨p, _, some u.p, e1, ?_, e3, e4⟩
    have hJ := join_app hq (e := ex) (h0' := false) (a := a) h0 c2 hcl e2
    have hup : u.p ≠ p := fun c => by rw [c, e2] at hcl; cases hcl
    refine ⟨e2, hJ.of rfl rfl rfl, (up_other _ _ (Ne.symm hup)).trans (up_same _ _ _), fun x hx => ?_, fun z c hz => ?_, fun z c' hz hzp => ?_, rfl, rfl, rfl, rfl, rfl, rfl⟩
    · obtain rfl := Option.some.inj hx
      exact ⟨_, hcl⟩
    · by_cases ez : z = u.p
      · subst ez
        rw [hcl] at hz
        obtain rfl := Option.some.inj hz
        exact ⟨_, up_same _ _ _⟩
      · exact ⟨c.be, ((up_other _ _ ez).trans (up_other _ _ (fun c' => by rw [c', e2] at hz; cases hz))).trans hz⟩
    · by_cases ez : z = u.p
      · subst ez
        have := (up_same _ _ _).symm.trans hz
        obtain rfl := Option.some.inj this
        exact ⟨_, hcl, rfl, rfl⟩
      · exact ⟨c', ((up_other _ _ ez).trans (up_other _ _ hzp)).symm.trans hz, rfl, rfl⟩
/-- The store behind join of one who asks. -/
structure JoA (S Sj : Sto) (L : List Am) (p a : Nat) : Prop where
  no : S.sp p = none
  a : ∀ {x : Am} {S2 : Sto}, x.sp = p → x.ak = a → x.id ∉ L.map (·.id) → x.ak ∉ L.map (·.ak) → x.num = S.asked → S2.sp = Sj.sp → S2.fi = Sj.fi → S2.la = Sj.la → S2.asked = S.asked + 1 → (∀ y, S2.P y = if y = x.id then some x.sp else S.P y) → AI S2 (L ++ [x])
theorem AI.same {S S' : Sto} {L : List Am} (h : AI S L) (h1 : S'.sp = S.sp) (h2 : S'.fi = S.fi) (h3 : S'.la = S.la) (h4 : S'.P = S.P) (h5 : S'.asked = S.asked) : AI S' L := by
  refine ⟨?_, fun e => by rw [h2, h3]; exact h.fl e, fun id => by rw [h4]; exact h.P id, h.ids, h.aks, h.num, fun b hb => by rw [h5]; exact h.nb b hb, by rw [h5]; exact h.na⟩
  have e2 : tS S' L = { tS S L with ak := S'.ak, sp := S'.sp, fi := S'.fi, la := S'.la, P := S'.P, asked := S'.asked } := by
    unfold tS
    rw [h1, h2, h3]
  rw [e2]
  exact h.q.of rfl rfl rfl
theorem joinA_any {S0 : Sto} {L : List Am} (hA : AI S0 L) (h1 : S.sp = S0.sp) (h2 : S.fi = S0.fi) (h3 : S.la = S0.la) (h : Mem B lb mq mp w S) (hB : ∀ j, w.heap.size ≤ j → B j) (a : Nat) :
    Calls Try.prog 43 #[.pointer (some ⟨lb, 1, none⟩), PN a] w fun e w' => ∃ p Sj, e = .returned (PN p) ∧ JoA S0 Sj L p a ∧ (Sj.cs = S.cs ∧ Sj.ln = S.ln ∧ Sj.Q = S.Q ∧ Sj.P = S.P ∧ Sj.asked = S.asked ∧ Sj.ak = S.ak) ∧ Mem B lb mq mp w' Sj ∧ Upd B w.heap.size w w' := by
  by_cases hL : L = []
  · subst hL
    obtain ⟨f1, f2⟩ := hA.fl rfl
    refine (joinA_new h hB (by rw [h2, f1]) (by rw [h3, f2]) a).mono fun e w' ⟨p, e1, e2, _, e3, e4⟩ => ⟨p, _, e1, ?_, ?_, e3, e4⟩
    case refine_2 => exact ⟨rfl, rfl, rfl, rfl, rfl, rfl⟩
    refine ⟨by rw [← h1]; exact e2, fun {x S2} hx1 hx2 hx3 hx4 hx5 k1 k2 k3 k4 k5 => ?_⟩
    have := hA.join_new hx3 hx4 hx5 (P' := S2.P) k5
    refine this.same ?_ ?_ ?_ rfl k4
    · rw [k1, hx1, hx2]; show up S.sp p _ = up S0.sp p _; rw [h1]
    · rw [k2, hx1]
    · rw [k3, hx1]
  · obtain ⟨f1, f2⟩ := hA.ends
    obtain ⟨u, hu, eu⟩ := lst_mem (l := L.map aQ) (ah := none) (by simpa using hL)
    rw [eu] at f2
    have hch := hA.q.chn (0, 0)
    rw [aqs_zero] at hch
    obtain ⟨_, _, _, hm⟩ := hch.mem u hu
    obtain ⟨sl, hsl⟩ : ∃ sl, S0.sp u.p = some sl := by
      have hm' : spx S0.sp u.p = some _ := hm
      unfold spx at hm'
      cases hs : S0.sp u.p with
      | none => rw [hs] at hm'; cases hm'
      | some sl => exact ⟨sl, rfl⟩
    refine (joinA_app h hB (l := u.p) (sl := sl) (by rw [h3, f2]) (by rw [h1, hsl]) a).mono fun e w' ⟨p, e1, e2, _, e3, e4⟩ => ⟨p, _, e1, ?_, ?_, e3, e4⟩
    case refine_2 => exact ⟨rfl, rfl, rfl, rfl, rfl, rfl⟩
    refine ⟨by rw [← h1]; exact e2, fun {x S2} hx1 hx2 hx3 hx4 hx5 k1 k2 k3 k4 k5 => ?_⟩
    have := hA.join_app hL hx3 hx4 hx5 (P' := S2.P) k5 f2 hsl (by rw [hx1, ← h1]; exact e2)
    refine this.same ?_ ?_ ?_ rfl k4
    · rw [k1, hx1, hx2]; show up (up S.sp p _) u.p _ = up (up S0.sp p _) u.p _; rw [h1]
    · rw [k2]; show S.fi = S0.fi; rw [h2]
    · rw [k3, hx1]
end
end Go.Proofs.Yteenbebpdibbcaa
