/- Those that have asked, pure: the line in which they stand, and all that holds of locks. -/
import Derived.Test.YteenbebpdibbcaaP3
namespace Go.Proofs.Yteenbebpdibbcaa
open Go.RowKit
set_option maxRecDepth 100000

def spx (f : Nat → Option Sp) : Nat → Option Cl := fun b => (f b).map fun s => ⟨s.of, (0, 0), false, true, s.ah, s.be⟩
def aQ (a : Am) : Qe := ⟨a.sp, a.ak, false⟩
def aqs (L : List Am) : Ky → List Qe := fun k => if k = (0, 0) then L.map aQ else []
def tS (S : Sto) (L : List Am) : Sto := { S with cs := spx S.sp, ln := fun z => if z = 0 then some ⟨S.fi, S.la⟩ else none, Q := fun k => if k = (0, 0) ∧ L ≠ [] then some 0 else none }
structure AI (S : Sto) (L : List Am) : Prop where
  q : QI (tS S L) (aqs L)
  fl : L = [] → S.fi = none ∧ S.la = none
  P : ∀ id, S.P id = (L.find? fun a => decide (a.id = id)).map (·.sp)
  ids : (L.map (·.id)).Nodup
  aks : (L.map (·.ak)).Nodup
  num : L.Pairwise fun a b => a.num < b.num
  nb : ∀ a ∈ L, 0 ≤ a.num ∧ a.num < S.asked
  na : 0 ≤ S.asked
theorem aqs_e (L : List Am) (k : Ky) : ∀ b ∈ (aqs L k).map Qe.e, b = false := fun b hb => by
  unfold aqs at hb
  split at hb
  · rw [List.map_map] at hb
    obtain ⟨a, _, rfl⟩ := List.mem_map.1 hb
    rfl
  · simp at hb
theorem hs_all : ∀ (pr : Option (Bool × Bool)) (es : List Bool), (pr = none ∨ pr = some (false, true)) → (∀ b ∈ es, b = false) → hs pr es = es.map fun _ => true
  | _, [], _, _ => rfl
  | pr, e :: r, hp, he => by
    have h1 : mayP pr e = true := by
      rw [he e (by simp)]
      rcases hp with rfl | rfl <;> rfl
    rw [hs, h1, he e (by simp), hs_all _ r (.inr rfl) fun b hb => he b (by simp [hb])]
    rfl
theorem lpr_all : ∀ (pr : Option (Bool × Bool)) (es : List Bool), (pr = none ∨ pr = some (false, true)) → (∀ b ∈ es, b = false) → lpr pr es = none ∨ lpr pr es = some (false, true)
  | _, [], hp, _ => hp
  | pr, e :: r, hp, he => by
    have h1 : mayP pr e = true := by
      rw [he e (by simp)]
      rcases hp with rfl | rfl <;> rfl
    rw [lpr, h1, he e (by simp)]
    exact lpr_all _ r (.inr rfl) fun b hb => he b (by simp [hb])
theorem spx_up (f : Nat → Option Sp) (p : Nat) (s : Sp) : spx (up f p s) = up (spx f) p ⟨s.of, (0, 0), false, true, s.ah, s.be⟩ := funext fun x => by
  unfold spx up
  split <;> rfl
theorem spx_md (f : Nat → Option Sp) (p : Nat) (g : Sp → Sp) (g' : Cl → Cl) (h : ∀ s : Sp, (⟨(g s).of, (0, 0), false, true, (g s).ah, (g s).be⟩ : Cl) = g' ⟨s.of, (0, 0), false, true, s.ah, s.be⟩) : spx (md f p g) = md (spx f) p g' := funext fun x => by
  unfold spx md
  split
  · rw [Option.map_map, Option.map_map]
    congr 1
    funext s
    exact h s
  · rfl
theorem unlA_cs (S : Sto) (L : List Am) (ah be : Option Nat) : spx (unlA S ah be).sp = (unlC (tS S L) 0 ah be).cs ∧ (∀ z, (unlC (tS S L) 0 ah be).ln z = if z = 0 then some ⟨(unlA S ah be).fi, (unlA S ah be).la⟩ else none) := by
  have e1 : ∀ x be, spx (md S.sp x fun c => { c with be := be }) = md (spx S.sp) x fun c => { c with be := be } := fun x be => spx_md _ _ _ _ fun s => rfl
  have e2 : ∀ (f : Nat → Option Sp) y ah, spx (md f y fun c => { c with ah := ah }) = md (spx f) y fun c => { c with ah := ah } := fun f y ah => spx_md _ _ _ _ fun s => rfl
  cases ah with
  | none =>
    cases be with
    | none =>
      refine ⟨rfl, fun z => ?_⟩
      show md (md _ 0 _) 0 _ z = _
      by_cases hz : z = 0
      · subst hz; rw [md_at, md_at]; rfl
      · rw [md_far _ _ hz, md_far _ _ hz, if_neg hz]; exact if_neg hz
    | some y =>
      refine ⟨e2 _ _ _, fun z => ?_⟩
      show md _ 0 _ z = _
      by_cases hz : z = 0
      · subst hz; rw [md_at]; rfl
      · rw [md_far _ _ hz, if_neg hz]; exact if_neg hz
  | some x =>
    cases be with
    | none =>
      refine ⟨e1 _ _, fun z => ?_⟩
      show md _ 0 _ z = _
      by_cases hz : z = 0
      · subst hz; rw [md_at]; rfl
      · rw [md_far _ _ hz, if_neg hz]; exact if_neg hz
    | some y =>
      refine ⟨?_, fun z => rfl⟩
      show spx (md (md S.sp x _) y _) = md (md _ x _) y _
      rw [e2, e1]
      rfl
theorem unlA_rest (S : Sto) (ah be : Option Nat) : (unlA S ah be).cs = S.cs ∧ (unlA S ah be).ak = S.ak ∧ (unlA S ah be).ln = S.ln ∧ (unlA S ah be).Q = S.Q ∧ (unlA S ah be).P = S.P ∧ (unlA S ah be).asked = S.asked := by
  cases ah <;> cases be <;> exact ⟨rfl, rfl, rfl, rfl, rfl, rfl⟩
theorem lvS_Q (S : Sto) (q : Nat) (c : Cl) (k : Ky) : (lvS S q c).Q k = if k = c.k ∧ ((unlC S q c.ah c.be).ln q).bind Ln.f = none then none else S.Q k := by
  unfold lvS
  split
  · rename_i e
    show (if k = c.k then none else (unlC S q c.ah c.be).Q k) = _
    rw [unlC_Q]
    by_cases hk : k = c.k
    · rw [if_pos hk, if_pos ⟨hk, e⟩]
    · rw [if_neg hk, if_neg fun c => hk c.1]
  · rename_i e
    rw [unlC_Q, if_neg fun c => e c.2]
theorem aqs_zero (L : List Am) : aqs L (0, 0) = L.map aQ := if_pos rfl
/-- One who asked leaves their line. -/
theorem AI.leave {S : Sto} {L1 L2 : List Am} {a : Am} (h : AI S (L1 ++ a :: L2)) {P' : Ky → Option Nat} (hP : ∀ x, P' x = if x = a.id then none else S.P x) :
    S.sp a.sp = some ⟨a.ak, lst none (L1.map aQ), nxt (L2.map aQ) none⟩ ∧ AI { unlA S (lst none (L1.map aQ)) (nxt (L2.map aQ) none) with P := P' } (L1 ++ L2) := by
  have hz : aqs (L1 ++ a :: L2) (0, 0) = L1.map aQ ++ aQ a :: L2.map aQ := by rw [aqs_zero, List.map_append, List.map_cons]
  have hch := h.q.chn (0, 0)
  rw [hz] at hch
  obtain ⟨hd, hmid⟩ := hch.mid
  have hself : S.sp a.sp = some ⟨a.ak, lst none (L1.map aQ), nxt (L2.map aQ) none⟩ := by
    have : (S.sp a.sp).map (fun s => (⟨s.of, (0, 0), false, true, s.ah, s.be⟩ : Cl)) = some ⟨a.ak, (0, 0), false, hd, lst none (L1.map aQ), nxt (L2.map aQ) none⟩ := hmid
    cases hs : S.sp a.sp with
    | none => rw [hs] at this; cases this
    | some s =>
      rw [hs] at this
      simp only [Option.map_some, Option.some.injEq, Cl.mk.injEq] at this
      obtain ⟨e1, _, _, _, e2, e3⟩ := this
      rw [← e1, ← e2, ← e3]
  refine ⟨hself, ?_, ?_, fun id => ?_, ?_, ?_, ?_, fun b hb => ?_, ?_⟩
  · have hQ : (tS S (L1 ++ a :: L2)).Q (0, 0) = some 0 := if_pos ⟨rfl, by simp⟩
    have hj := leave_qj h.q hz hQ (hd := true)
    have ea : ∀ b ∈ (L1.map aQ).map Qe.e, b = false := fun b hb => by
      rw [List.map_map] at hb; obtain ⟨_, _, rfl⟩ := List.mem_map.1 hb; rfl
    have eb : ∀ b ∈ (L2.map aQ).map Qe.e, b = false := fun b hb => by
      rw [List.map_map] at hb; obtain ⟨_, _, rfl⟩ := List.mem_map.1 hb; rfl
    obtain ⟨u1, u2⟩ := unlA_cs S (L1 ++ a :: L2) (lst none (L1.map aQ)) (nxt (L2.map aQ) none)
    have hqs : setQ (aqs (L1 ++ a :: L2)) (0, 0) (L1.map aQ ++ L2.map aQ) = aqs (L1 ++ L2) := funext fun k => by
      unfold setQ aqs
      by_cases hk : k = (0, 0)
      · rw [if_pos hk, if_pos hk, List.map_append]
      · rw [if_neg hk, if_neg hk, if_neg hk]
    have hfl : hs none ((L1.map aQ).map Qe.e) ++ hs (some ((aQ a).e, mayP (lpr none ((L1.map aQ).map Qe.e)) (aQ a).e)) ((L2.map aQ).map Qe.e) = hs none ((aqs (L1 ++ L2) (0, 0)).map Qe.e) := by
      have hm : mayP (lpr none ((L1.map aQ).map Qe.e)) (aQ a).e = true := by
        rcases lpr_all none _ (.inl rfl) ea with e | e <;> rw [e] <;> rfl
      rw [hm, show (aQ a).e = false from rfl, aqs_zero, hs_all none _ (.inl rfl) ea, hs_all _ _ (.inr rfl) eb, hs_all none ((L1 ++ L2).map aQ |>.map Qe.e) (.inl rfl), List.map_append, List.map_append, List.map_append]
      intro b hb
      rw [List.map_map] at hb; obtain ⟨_, _, rfl⟩ := List.mem_map.1 hb; rfl
    rw [hqs, hfl] at hj
    have hl0 : ((unlC (tS S (L1 ++ a :: L2)) 0 (lst none (L1.map aQ)) (nxt (L2.map aQ) none)).ln 0).bind Ln.f = nxt ((L1 ++ L2).map aQ) none := by
      rcases (hj.qq (0, 0)) with ⟨c1, c2⟩ | ⟨c1, q, c2, c3⟩
      · rw [aqs_zero] at c1
        rw [c1]
        cases hx : ((unlC (tS S (L1 ++ a :: L2)) 0 (lst none (L1.map aQ)) (nxt (L2.map aQ) none)).ln 0).bind Ln.f with
        | none => rfl
        | some y =>
          have : (lvS (tS S (L1 ++ a :: L2)) 0 ⟨(aQ a).a, (0, 0), (aQ a).e, true, lst none (L1.map aQ), nxt (L2.map aQ) none⟩).Q (0, 0) = some 0 := by
            unfold lvS
            rw [if_neg (by rw [hx]; simp)]
            rw [unlC_Q]; exact hQ
          rw [this] at c2; cases c2
      · rw [aqs_zero] at c3
        have hq0 : q = 0 := by
          rw [lvS_Q] at c2
          split at c2
          · cases c2
          · exact (Option.some.inj (hQ.symm.trans c2)).symm
        rw [lvS_ln, hq0] at c3
        rw [c3]; rfl
    refine (QJ.of hj ?_ ?_ ?_).qi
    · rw [lvS_cs]; exact u1
    · rw [lvS_ln]; funext z; exact (u2 z).symm
    · funext k
      show (if k = (0, 0) ∧ L1 ++ L2 ≠ [] then some 0 else none) = (lvS _ _ _).Q k
      rw [lvS_Q]
      show _ = if k = (0, 0) ∧ ((unlC (tS S (L1 ++ a :: L2)) 0 (lst none (L1.map aQ)) (nxt (L2.map aQ) none)).ln 0).bind Ln.f = none then none else if k = (0, 0) ∧ L1 ++ a :: L2 ≠ [] then some 0 else none
      rw [hl0]
      by_cases hn : L1 ++ L2 = []
      · rw [if_neg fun c => c.2 hn, hn]
        by_cases hk : k = (0, 0)
        · rw [if_pos ⟨hk, rfl⟩]
        · rw [if_neg fun c => hk c.1, if_neg fun c => hk c.1]
      · have hneg : ¬ (k = (0, 0) ∧ nxt ((L1 ++ L2).map aQ) none = none) := fun c => hn (by have := nxt_none.1 c.2; simpa using this)
        rw [if_neg hneg]
        by_cases hk : k = (0, 0)
        · rw [if_pos ⟨hk, hn⟩, if_pos ⟨hk, by simp⟩]
        · rw [if_neg fun c => hk c.1, if_neg fun c => hk c.1]
  · intro hn
    obtain ⟨h1, h2⟩ := List.append_eq_nil_iff.1 hn
    subst h1; subst h2
    exact ⟨rfl, rfl⟩
  · show P' id = _
    rw [hP, h.P, List.find?_append, List.find?_append, List.find?_cons]
    have hids := h.ids
    rw [List.map_append, List.map_cons, List.nodup_append, List.nodup_cons] at hids
    by_cases e : id = a.id
    · rw [if_pos e]
      have n1 : L1.find? (fun b => decide (b.id = id)) = none := List.find?_eq_none.2 fun b hb => by
        simp only [decide_eq_true_eq]
        exact fun c => hids.2.2 b.id (List.mem_map.2 ⟨b, hb, rfl⟩) a.id (by simp) (c.trans e)
      have n2 : L2.find? (fun b => decide (b.id = id)) = none := List.find?_eq_none.2 fun b hb => by
        simp only [decide_eq_true_eq]
        exact fun c => hids.2.1.1 (List.mem_map.2 ⟨b, hb, c.trans e⟩)
      rw [n1, n2]; rfl
    · rw [if_neg e, show decide (a.id = id) = false from by simp; exact fun c => e c.symm]
  · have := h.ids
    rw [List.map_append, List.map_cons] at this
    rw [List.map_append]
    exact this.sublist (List.Sublist.append_left (List.sublist_cons_self _ _) _)
  · have := h.aks
    rw [List.map_append, List.map_cons] at this
    rw [List.map_append]
    exact this.sublist (List.Sublist.append_left (List.sublist_cons_self _ _) _)
  · exact h.num.sublist (List.Sublist.append_left (List.sublist_cons_self _ _) _)
  · have := h.nb b (by rcases List.mem_append.1 hb with c | c; exact List.mem_append_left _ c; exact List.mem_append_right _ (List.mem_cons_of_mem _ c))
    rw [show ({ unlA S (lst none (L1.map aQ)) (nxt (L2.map aQ) none) with P := P' } : Sto).asked = S.asked from (unlA_rest S _ _).2.2.2.2.2]
    exact this
  · rw [show ({ unlA S (lst none (L1.map aQ)) (nxt (L2.map aQ) none) with P := P' } : Sto).asked = S.asked from (unlA_rest S _ _).2.2.2.2.2]
    exact h.na
end Go.Proofs.Yteenbebpdibbcaa
