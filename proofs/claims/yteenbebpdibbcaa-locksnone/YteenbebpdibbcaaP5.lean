/- All that holds of locks; one who asks joins, with no lock yet; one lock more. -/
import Derived.Test.YteenbebpdibbcaaP4
namespace Go.Proofs.Yteenbebpdibbcaa
open Go.RowKit
set_option maxRecDepth 100000

theorem spx_some {f : Nat → Option Sp} {p : Nat} {s : Sp} (h : f p = some s) : spx f p = some ⟨s.of, (0, 0), false, true, s.ah, s.be⟩ := by unfold spx; rw [h]; rfl
theorem spx_none {f : Nat → Option Sp} {p : Nat} (h : f p = none) : spx f p = none := by unfold spx; rw [h]; rfl
theorem aqs_snoc (L : List Am) (a : Am) : addQ (aqs L) (0, 0) (aQ a) = aqs (L ++ [a]) := funext fun k => by
  unfold addQ aqs
  by_cases hk : k = (0, 0)
  · rw [if_pos hk, if_pos hk, if_pos rfl, List.map_append]; rfl
  · rw [if_neg hk, if_neg hk, if_neg hk]
theorem AI.ends {S : Sto} {L : List Am} (h : AI S L) : S.fi = nxt (L.map aQ) none ∧ S.la = lst none (L.map aQ) := by
  by_cases hn : L = []
  · obtain ⟨h1, h2⟩ := h.fl hn
    rw [hn, h1, h2]; exact ⟨rfl, rfl⟩
  · have hQ : (tS S L).Q (0, 0) = some 0 := if_pos ⟨rfl, hn⟩
    rcases (h.q (0, 0)).qq (0, 0) with ⟨_, c⟩ | ⟨_, q, c1, c2⟩
    · rw [hQ] at c; cases c
    · rw [hQ] at c1
      obtain rfl := Option.some.inj c1
      have c3 : some (⟨S.fi, S.la⟩ : Ln) = some ⟨nxt (aqs L (0, 0)) none, lst none (aqs L (0, 0))⟩ := c2
      rw [aqs_zero] at c3
      simp only [Option.some.injEq, Ln.mk.injEq] at c3
      exact c3
/-- The parts of AI that speak of no line. -/
theorem AI.more {S S' : Sto} {L : List Am} {a : Am} (h : AI S L) (hq : QI (tS S' (L ++ [a])) (aqs (L ++ [a]))) (hid : a.id ∉ L.map (·.id)) (hak : a.ak ∉ L.map (·.ak)) (hnum : a.num = S.asked) (hS : S'.asked = S.asked + 1) (hP : ∀ x, S'.P x = if x = a.id then some a.sp else S.P x) : AI S' (L ++ [a]) := by
  refine ⟨hq, fun c => by simp at c, fun x => ?_, ?_, ?_, ?_, fun b hb => ?_, by rw [hS]; have := h.na; omega⟩
  · rw [hP, List.find?_append, h.P]
    by_cases e : x = a.id
    · rw [if_pos e]
      have n1 : L.find? (fun b => decide (b.id = x)) = none := List.find?_eq_none.2 fun b hb => by
        simp only [decide_eq_true_eq]
        exact fun c => hid (List.mem_map.2 ⟨b, hb, c.trans e⟩)
      rw [n1, List.find?_cons, show decide (a.id = x) = true from by simp [e]]
      rfl
    · rw [if_neg e, List.find?_cons, show decide (a.id = x) = false from by simp; exact fun c => e c.symm]
      cases L.find? (fun b => decide (b.id = x)) <;> rfl
  · rw [List.map_append, List.nodup_append]
    exact ⟨h.ids, by simp, fun u hu v hv e => hid (by simp at hv; rw [← hv, ← e]; exact hu)⟩
  · rw [List.map_append, List.nodup_append]
    exact ⟨h.aks, by simp, fun u hu v hv e => hak (by simp at hv; rw [← hv, ← e]; exact hu)⟩
  · rw [List.pairwise_append]
    refine ⟨h.num, by simp, fun u hu v hv => ?_⟩
    simp only [List.mem_singleton] at hv
    rw [hv, hnum]; exact (h.nb u hu).2
  · rcases List.mem_append.1 hb with c | c
    · have := h.nb b c; rw [hS]; omega
    · simp only [List.mem_singleton] at c
      rw [c, hnum, hS]; have := h.na; omega
theorem AI.join_new {S : Sto} {a : Am} (h : AI S []) (hid : a.id ∉ ([] : List Am).map (·.id)) (hak : a.ak ∉ ([] : List Am).map (·.ak)) (hnum : a.num = S.asked) {P' : Ky → Option Nat} (hP : ∀ x, P' x = if x = a.id then some a.sp else S.P x) :
    AI { S with sp := up S.sp a.sp ⟨a.ak, none, none⟩, fi := some a.sp, la := some a.sp, asked := S.asked + 1, P := P' } [a] := by
  have := h.more (a := a) (S' := { S with sp := up S.sp a.sp ⟨a.ak, none, none⟩, fi := some a.sp, la := some a.sp, asked := S.asked + 1, P := P' }) ?_ hid hak hnum rfl hP
  · exact this
  · show QI (tS _ [a]) (aqs [a])
    refine QJ.qi (k0 := (0, 0)) ⟨fun k hk => ?_, ?_, fun k => ?_, fun k k' q e1 e2 => ?_, fun k => ?_⟩
    · unfold aqs; rw [if_neg hk]; exact trivial
    · rw [aqs_zero]
      exact ⟨spx_some (up_same _ _ _), trivial⟩
    · by_cases hk : k = (0, 0)
      · rw [hk, aqs_zero]
        refine .inr ⟨by simp, 0, ?_, rfl⟩
        show (if ((0 : Int), (0 : Int)) = (0, 0) ∧ [a] ≠ [] then some 0 else none) = some 0
        rw [if_pos ⟨rfl, by simp⟩]
      · unfold aqs; rw [if_neg hk]
        exact .inl ⟨rfl, if_neg fun c => hk c.1⟩
    · have e1' : (if k = (0, 0) ∧ [a] ≠ [] then some 0 else none) = some q := e1
      have e2' : (if k' = (0, 0) ∧ [a] ≠ [] then some 0 else none) = some q := e2
      split at e1'
      · split at e2'
        · rename_i h1 h2; rw [h1.1, h2.1]
        · cases e2'
      · cases e1'
    · unfold aqs
      split <;> simp
theorem AI.join_app {S : Sto} {L : List Am} {a : Am} (h : AI S L) (hL : L ≠ []) (hid : a.id ∉ L.map (·.id)) (hak : a.ak ∉ L.map (·.ak)) (hnum : a.num = S.asked) {P' : Ky → Option Nat} (hP : ∀ x, P' x = if x = a.id then some a.sp else S.P x) {l : Nat} {sl : Sp} (hl : S.la = some l) (hsl : S.sp l = some sl) (hp : S.sp a.sp = none) :
    AI { S with sp := up (up S.sp a.sp ⟨a.ak, some l, none⟩) l { sl with be := some a.sp }, la := some a.sp, asked := S.asked + 1, P := P' } (L ++ [a]) := by
  refine h.more ?_ hid hak hnum rfl hP
  have hQ : (tS S L).Q (0, 0) = some 0 := if_pos ⟨rfl, hL⟩
  have hj := Go.Proofs.Yteenbebpdibbcaa.join_app h.q (e := false) (h0' := true) (a := a.ak) (f := S.fi) hQ (by show some (⟨S.fi, S.la⟩ : Ln) = _; rw [hl]) (spx_some hsl) (spx_none hp)
  rw [show (⟨a.sp, a.ak, false⟩ : Qe) = aQ a from rfl, aqs_snoc] at hj
  have hfl : hs none ((aqs L (0, 0)).map Qe.e) ++ [true] = hs none ((aqs (L ++ [a]) (0, 0)).map Qe.e) := by
    rw [hs_all none _ (.inl rfl) (aqs_e L _), hs_all none _ (.inl rfl) (aqs_e (L ++ [a]) _), aqs_zero, aqs_zero]
    simp
  rw [hfl] at hj
  refine (hj.of ?_ ?_ ?_).qi
  · show spx (up (up S.sp a.sp _) l _) = up (up (spx S.sp) a.sp _) l _
    rw [spx_up, spx_up]
  · funext z
    show (if z = 0 then some (⟨S.fi, some a.sp⟩ : Ln) else none) = up _ 0 _ z
    by_cases hz : z = 0
    · rw [if_pos hz, hz, up_same]
    · rw [if_neg hz, up_other _ _ hz]; exact (if_neg hz).symm
  · funext k
    show (if k = (0, 0) ∧ L ++ [a] ≠ [] then some 0 else none) = if k = (0, 0) ∧ L ≠ [] then some 0 else none
    by_cases hk : k = (0, 0)
    · rw [if_pos ⟨hk, by simp⟩, if_pos ⟨hk, hL⟩]
    · rw [if_neg fun c => hk c.1, if_neg fun c => hk c.1]
theorem AI.cl {S S' : Sto} {L1 L2 : List Am} {a : Am} (c : List (Nat × Lk)) (h : AI S (L1 ++ a :: L2)) (h1 : S'.sp = S.sp) (h2 : S'.fi = S.fi) (h3 : S'.la = S.la) (h4 : S'.P = S.P) (h5 : S'.asked = S.asked) : AI S' (L1 ++ { a with cl := c } :: L2) := by
  have e1 : (L1 ++ ({ a with cl := c } : Am) :: L2).map aQ = (L1 ++ a :: L2).map aQ := by simp [aQ]
  have e2 : tS S' (L1 ++ ({ a with cl := c } : Am) :: L2) = { tS S (L1 ++ a :: L2) with ak := S'.ak, sp := S'.sp, fi := S'.fi, la := S'.la, P := S'.P, asked := S'.asked } := by
    unfold tS
    rw [h1, h2, h3]
    simp
  refine ⟨?_, fun e => by simp at e, fun id => ?_, ?_, ?_, ?_, fun b hb => ?_, by rw [h5]; exact h.na⟩
  · have : aqs (L1 ++ ({ a with cl := c } : Am) :: L2) = aqs (L1 ++ a :: L2) := by funext k; unfold aqs; rw [e1]
    rw [this, e2]
    exact h.q.of rfl rfl rfl
  · rw [h4, h.P, List.find?_append, List.find?_append, List.find?_cons, List.find?_cons]
    cases L1.find? (fun b => decide (b.id = id)) with
    | some y => rfl
    | none =>
      by_cases e : a.id = id
      · rw [show decide (a.id = id) = true from by simp [e]]; rfl
      · rw [show decide (a.id = id) = false from by simp [e]]
  · have := h.ids; simpa using this
  · have := h.aks; simpa using this
  · have := h.num
    rw [List.pairwise_append, List.pairwise_cons] at this ⊢
    refine ⟨this.1, ⟨this.2.1.1, this.2.1.2⟩, fun u hu v hv => ?_⟩
    rcases List.mem_cons.1 hv with e | e
    · rw [e]; exact this.2.2 u hu a (by simp)
    · exact this.2.2 u hu v (by simp [e])
  · rw [h5]
    rcases List.mem_append.1 hb with e | e
    · exact h.nb b (List.mem_append_left _ e)
    · rcases List.mem_cons.1 e with e | e
      · rw [e]; exact h.nb a (by simp)
      · exact h.nb b (by simp [e])
def qF (k : Ky) (a : Am) : List Qe := a.cl.filterMap fun c => if c.2.1 = k then some ⟨c.1, a.ak, c.2.2⟩ else none
def Qs (M : List Am) : Ky → List Qe := fun k => M.flatMap (qF k)
structure LI (S : Sto) (L : List Am) (pend : Nat → Nat) : Prop where
  a : AI S L
  q : QI S (Qs L)
  k : Lki S L pend
  c1 : ∀ p c, S.cs p = some c → ∃ A, S.ak c.by' = some A
  c2 : ∀ p c x, S.cs p = some c → c.ah = some x → ∃ d, S.cs x = some d
  ok : ∀ a ∈ L, I.OkK a.id ∧ ∀ c ∈ a.cl, OkK c.2.1
  kd : ∀ a ∈ L, (a.cl.map (·.2.1)).Nodup
theorem qF_mem {k : Ky} {a : Am} {x : Qe} : x ∈ qF k a ↔ ∃ c ∈ a.cl, c.2.1 = k ∧ x = ⟨c.1, a.ak, c.2.2⟩ := by
  unfold qF
  rw [List.mem_filterMap]
  refine ⟨fun ⟨c, h1, h2⟩ => ?_, fun ⟨c, h1, h2, h3⟩ => ⟨c, h1, by rw [if_pos h2, h3]⟩⟩
  split at h2
  · rename_i e
    exact ⟨c, h1, e, (Option.some.inj h2).symm⟩
  · cases h2
theorem Qs_mem {M : List Am} {k : Ky} {x : Qe} : x ∈ Qs M k ↔ ∃ a ∈ M, ∃ c ∈ a.cl, c.2.1 = k ∧ x = ⟨c.1, a.ak, c.2.2⟩ := by
  unfold Qs
  rw [List.mem_flatMap]
  exact ⟨fun ⟨a, h1, h2⟩ => ⟨a, h1, qF_mem.1 h2⟩, fun ⟨a, h1, h2⟩ => ⟨a, h1, qF_mem.2 h2⟩⟩
/-- Each claim stands where it is said to. -/
theorem QI.claim {S : Sto} {M : List Am} (h : QI S (Qs M)) {a : Am} (ha : a ∈ M) {c : Nat × Lk} (hc : c ∈ a.cl) : ∃ hd ah be, S.cs c.1 = some ⟨a.ak, c.2.1, c.2.2, hd, ah, be⟩ :=
  (h.chn c.2.1).mem ⟨c.1, a.ak, c.2.2⟩ (Qs_mem.2 ⟨a, ha, c, hc, rfl, rfl⟩)
end Go.Proofs.Yteenbebpdibbcaa
