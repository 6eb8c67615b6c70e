/- The group, in pure terms: one leader a term. -/
import Derived.Test.YtpadbbkklmgimaaW1
namespace Go.Proofs.Ytpadbbkklmgimaa
open Go.RowKit

theorem cnt_mono {f g : Nat → Bool} {n : Nat} (h : ∀ p, p < n → f p = true → g p = true) : (uptoV f n).length ≤ (uptoV g n).length := by
  induction n with
  | zero => exact Nat.le_refl _
  | succ n ih =>
    have h1 := ih (fun p hp => h p (by omega))
    have h2 := h n (by omega)
    rw [uptoV, uptoV, List.length_append, List.length_append]
    cases hf : f n
    · simp; omega
    · rw [h2 hf]; simp; omega
theorem cnt_apart {f g : Nat → Bool} {n : Nat} (h : ∀ p, p < n → f p = true → g p = true → False) : (uptoV f n).length + (uptoV g n).length ≤ n := by
  induction n with
  | zero => simp [uptoV]
  | succ n ih =>
    have h1 := ih (fun p hp => h p (by omega))
    have h2 := h n (by omega)
    rw [uptoV, uptoV, List.length_append, List.length_append]
    cases hf : f n <;> cases hg : g n
    · simp; omega
    · simp; omega
    · simp; omega
    · exact (h2 hf hg).elim

structure Grp (n : Nat) (V : Nat → Vt) (G : Nat → Int → Option Nat) (L : Int → Option Nat) (T : Nat) : Prop where
  ok : ∀ j, j < n → (V j).Ok
  nn : ∀ j, j < n → (V j).n = n
  me : ∀ j, j < n → (V j).self = j
  tm : ∀ j, j < n → (V j).term ≤ T
  vote : ∀ j, j < n → (V j).vt j = true → ∀ p, p < n → (V j).vt p = true → G p (V j).term = some j
  gave : ∀ p, p < n → ∀ t j, G p t = some j → t ≤ (V p).term ∧ (t = (V p).term → (V p).voted = j)
  lead : ∀ t j, L t = some j → n < 2 * (uptoV (fun p => decide (G p t = some j)) n).length

def setV (V : Nat → Vt) (i : Nat) (X : Vt) : Nat → Vt := fun j => if j = i then X else V j
theorem setV_same (V : Nat → Vt) (i : Nat) (X : Vt) : setV V i X i = X := if_pos rfl
theorem setV_other (V : Nat → Vt) {i j : Nat} (X : Vt) (h : j ≠ i) : setV V i X j = V j := if_neg h
def putG (G : Nat → Int → Option Nat) (p : Nat) (t : Int) (j : Nat) : Nat → Int → Option Nat := fun p' t' => if p' = p ∧ t' = t then some j else G p' t'
theorem putG_same (G : Nat → Int → Option Nat) (p : Nat) (t : Int) (j : Nat) : putG G p t j p t = some j := if_pos ⟨rfl, rfl⟩
theorem putG_other (G : Nat → Int → Option Nat) {p p' : Nat} {t t' : Int} (j : Nat) (h : ¬ (p' = p ∧ t' = t)) : putG G p t j p' t' = G p' t' := if_neg h
def putW (L : Int → Option Nat) (t : Int) (j : Nat) : Int → Option Nat := fun t' => if t' = t then some j else L t'

theorem lead_ext {n : Nat} {G G' : Nat → Int → Option Nat} {L : Int → Option Nat} (h : ∀ t j, L t = some j → n < 2 * (uptoV (fun p => decide (G p t = some j)) n).length) (he : ∀ p t j, G p t = some j → G' p t = some j) :
    ∀ t j, L t = some j → n < 2 * (uptoV (fun p => decide (G' p t = some j)) n).length := fun t j hl => by
  have h1 := h t j hl
  have h2 := cnt_mono (f := fun p => decide (G p t = some j)) (g := fun p => decide (G' p t = some j)) (n := n) (fun p _ hp => by simp only [decide_eq_true_eq] at hp ⊢; exact he p t j hp)
  omega

theorem Grp.stand {n i : Nat} {V : Nat → Vt} {G : Nat → Int → Option Nat} {L : Int → Option Nat} {T : Nat} (H : Grp n V G L T) (hi : i < n) (ht : (V i).term < 1099511627776) :
    Grp n (setV V i (V i).stand) (putG G i ((V i).term + 1) i) L (T + 1) := by
  have hme := H.me i hi
  have hnone : G i ((V i).term + 1) = none := by
    cases h : G i ((V i).term + 1) with
    | none => rfl
    | some j => have := (H.gave i hi _ j h).1; omega
  have he : ∀ p t j, G p t = some j → putG G i ((V i).term + 1) i p t = some j := fun p t j h => by
    by_cases c : p = i ∧ t = (V i).term + 1
    · obtain ⟨rfl, rfl⟩ := c; rw [hnone] at h; cases h
    · rw [putG_other G i c]; exact h
  have hvt : ∀ p, (V i).stand.vt p = true → p = i := fun p hp => by
    have : (if p = (V i).self then true else false) = true := hp
    by_cases c : p = (V i).self
    · omega
    · rw [if_neg c] at this; cases this
  refine ⟨fun j hj => ?_, fun j hj => ?_, fun j hj => ?_, fun j hj => ?_, fun j hj hv p hp hvp => ?_, fun p hp t j h => ?_, lead_ext H.lead he⟩
  · by_cases c : j = i
    · subst c; rw [setV_same]; exact (H.ok j hj).stand ht
    · rw [setV_other _ _ c]; exact H.ok j hj
  · by_cases c : j = i
    · subst c; rw [setV_same]; exact H.nn j hj
    · rw [setV_other _ _ c]; exact H.nn j hj
  · by_cases c : j = i
    · subst c; rw [setV_same]; exact H.me j hj
    · rw [setV_other _ _ c]; exact H.me j hj
  · by_cases c : j = i
    · subst c; rw [setV_same]; show (V j).term + 1 ≤ _; have := H.tm j hj; omega
    · rw [setV_other _ _ c]; have := H.tm j hj; omega
  · by_cases c : j = i
    · subst c
      rw [setV_same] at hvp ⊢
      obtain rfl := hvt p hvp
      exact putG_same G p _ p
    · rw [setV_other _ _ c] at hv hvp ⊢
      exact he _ _ _ (H.vote j hj hv p hp hvp)
  · by_cases c : p = i
    · subst c
      rw [setV_same]
      show t ≤ (V p).term + 1 ∧ (t = (V p).term + 1 → ((V p).self : Int) = j)
      by_cases c2 : t = (V p).term + 1
      · subst c2
        rw [putG_same] at h
        obtain rfl := Option.some.inj h
        exact ⟨by omega, fun _ => by rw [hme]⟩
      · rw [putG_other G p (fun x => c2 x.2)] at h
        have := (H.gave p hp t j h).1
        exact ⟨by omega, fun e => absurd e c2⟩
    · rw [putG_other G i (fun x => c x.1)] at h
      rw [setV_other _ _ c]
      exact H.gave p hp t j h

/-- What Grant leaves. -/
theorem Vt.grant_is (V : Vt) (who t xl xz len last : Int) :
    (V.grant who t xl xz len last).n = V.n ∧ (V.grant who t xl xz len last).self = V.self ∧
    (((V.grant who t xl xz len last).term = V.term ∧ (V.grant who t xl xz len last).vt = V.vt) ∨ (V.term < t ∧ (V.grant who t xl xz len last).term = t ∧ (V.grant who t xl xz len last).vt = fun _ => false)) ∧
    (V.grants who t xl xz len last = true → (V.grant who t xl xz len last).term = t ∧ (V.grant who t xl xz len last).voted = who ∧ V.term ≤ t ∧ (V.term = t → V.voted = -1 ∨ V.voted = who)) ∧
    (V.grants who t xl xz len last = false → (V.grant who t xl xz len last).term = V.term → (V.grant who t xl xz len last).voted = V.voted) := by
  unfold Vt.grant Vt.grants
  by_cases hm : V.may who t = true
  · rw [if_pos hm, hm, Bool.true_and]
    have ht : t ≤ 1099511627776 := by simp only [Vt.may, Bool.and_eq_true, decide_eq_true_eq] at hm; omega
    have hh : (V.term < t ∧ V.hear t = V.begin t (-1)) ∨ (¬ V.term < t ∧ V.hear t = V) := by
      by_cases c : V.term < t
      · exact Or.inl ⟨c, by rw [Vt.hear, if_pos]; simp only [Vt.hears, Bool.and_eq_true, decide_eq_true_eq]; exact ⟨c, ht⟩⟩
      · exact Or.inr ⟨c, by rw [Vt.hear, if_neg]; simp only [Vt.hears, Bool.and_eq_true, decide_eq_true_eq]; exact fun x => c x.1⟩
    cases hg : (V.hear t).gives who t xl xz len last
    · have e : (V.hear t).gave who t xl xz len last = V.hear t := by rw [Vt.gave, if_neg (by simp [hg])]
      rw [e]
      rcases hh with ⟨c, e2⟩ | ⟨c, e2⟩
      · rw [e2]
        exact ⟨rfl, rfl, Or.inr ⟨c, rfl, rfl⟩, nofun, fun _ h => by have : t = V.term := h; omega⟩
      · rw [e2]
        exact ⟨rfl, rfl, Or.inl ⟨rfl, rfl⟩, nofun, fun _ _ => rfl⟩
    · have e : (V.hear t).gave who t xl xz len last = { V.hear t with voted := who } := by rw [Vt.gave, if_pos hg]
      rw [e]
      simp only [Vt.gives, Bool.and_eq_true, Bool.or_eq_true, Bool.not_eq_true', decide_eq_true_eq, decide_eq_false_iff_not] at hg
      rcases hh with ⟨c, e2⟩ | ⟨c, e2⟩
      · rw [e2]
        exact ⟨rfl, rfl, Or.inr ⟨c, rfl, rfl⟩, fun _ => ⟨rfl, rfl, by omega, fun h => by omega⟩, nofun⟩
      · rw [e2] at hg ⊢
        have he : V.term = t := by omega
        exact ⟨rfl, rfl, Or.inl ⟨rfl, rfl⟩, fun _ => ⟨he, rfl, by omega, fun _ => hg.1.2⟩, nofun⟩
  · rw [if_neg hm]
    have hf : V.may who t = false := by simpa using hm
    rw [hf, Bool.false_and]
    exact ⟨rfl, rfl, Or.inl ⟨rfl, rfl⟩, nofun, fun _ _ => rfl⟩

/-- A vote that is given was given to nobody else. -/
theorem Grp.sure {n i k : Nat} {V : Nat → Vt} {G : Nat → Int → Option Nat} {L : Int → Option Nat} {T : Nat} (H : Grp n V G L T) (hk : k < n) (t xl xz len last : Int) (hy : (V k).grants i t xl xz len last = true) (to : Nat) (hg : G k t = some to) : to = i := by
  obtain ⟨_, _, _, h4, _⟩ := (V k).grant_is i t xl xz len last
  obtain ⟨_, _, h5, h6⟩ := h4 hy
  have h7 := H.gave k hk t to hg
  have e : (V k).term = t := by omega
  have h8 := h7.2 e.symm
  rcases h6 e with h | h <;> omega

def ifG (y : Bool) (G : Nat → Int → Option Nat) (k : Nat) (t : Int) (i : Nat) : Nat → Int → Option Nat := if y then putG G k t i else G

theorem Grp.grant {n i k : Nat} {V : Nat → Vt} {G : Nat → Int → Option Nat} {L : Int → Option Nat} {T : Nat} (H : Grp n V G L T) (hi : i < n) (hk : k < n) (hik : i ≠ k) (xl xz len last : Int) (y : Bool) (hy : (V k).grants i (V i).term xl xz len last = y) :
    Grp n (setV (setV V k ((V k).grant i (V i).term xl xz len last)) i ((V i).count k (V i).term y)) (ifG y G k (V i).term i) L T := by
  obtain ⟨g1, g2, g3, g4, g5⟩ := (V k).grant_is i (V i).term xl xz len last
  have hok := (H.ok k hk).grant i (V i).term xl xz len last
  obtain ⟨W, hW⟩ : ∃ W, (V k).grant i (V i).term xl xz len last = W := ⟨_, rfl⟩
  rw [hW] at g1 g2 g3 g4 g5 hok ⊢
  rw [hy] at g4 g5
  have hsure : y = true → ∀ to, G k (V i).term = some to → to = i := fun e to hto => H.sure hk _ xl xz len last (hy.trans e) to hto
  have he : ∀ p t j, G p t = some j → ifG y G k (V i).term i p t = some j := fun p t j h => by
    unfold ifG
    by_cases cy : y = true
    · rw [if_pos cy]
      by_cases c : p = k ∧ t = (V i).term
      · obtain ⟨rfl, rfl⟩ := c
        rw [putG_same, hsure cy j h]
      · rw [putG_other G i c]; exact h
    · rw [if_neg cy]; exact h
  have hct : ((V i).count k (V i).term y).n = (V i).n ∧ ((V i).count k (V i).term y).self = (V i).self ∧ ((V i).count k (V i).term y).term = (V i).term ∧ ((V i).count k (V i).term y).voted = (V i).voted := by
    unfold Vt.count; split <;> exact ⟨rfl, rfl, rfl, rfl⟩
  have hcv : ∀ p, ((V i).count k (V i).term y).vt p = true → (V i).vt p = true ∨ (p = k ∧ y = true) := fun p hp => by
    unfold Vt.count at hp
    cases hc : (V i).counts k (V i).term y
    · rw [hc] at hp; exact Or.inl hp
    · rw [hc, if_pos rfl] at hp
      have hp2 : (if p = (k : Int).toNat then true else (V i).vt p) = true := hp
      by_cases c : p = (k : Int).toNat
      · rw [Int.toNat_natCast] at c; exact Or.inr ⟨c, (Vt.counts_is hc).1⟩
      · rw [if_neg c] at hp2; exact Or.inl hp2
  have hself : (V i).self = i := H.me i hi
  have hcs : ((V i).count k (V i).term y).vt i = true → (V i).vt i = true := fun h => by
    rcases hcv i h with h | h
    · exact h
    · exact absurd h.1 hik
  have key : ∀ j, setV (setV V k W) i ((V i).count k (V i).term y) j = if j = i then (V i).count k (V i).term y else if j = k then W else V j := fun j => rfl
  refine ⟨fun j hj => ?_, fun j hj => ?_, fun j hj => ?_, fun j hj => ?_, fun j hj hv p hp hvp => ?_, fun p hp t j h => ?_, lead_ext H.lead he⟩
  · rw [key]; split
    · exact (H.ok i hi).count _ _ _
    · split
      · exact hok
      · exact H.ok j hj
  · rw [key]; split
    · rw [hct.1]; exact H.nn i hi
    · split
      · rw [g1]; exact H.nn k hk
      · exact H.nn j hj
  · rw [key]; split
    · rename_i c; rw [hct.2.1, c]; exact hself
    · split
      · rename_i c; rw [g2, c]; exact H.me k hk
      · exact H.me j hj
  · rw [key]; split
    · rw [hct.2.2.1]; exact H.tm i hi
    · split
      · rcases g3 with g | g
        · rw [g.1]; exact H.tm k hk
        · rw [g.2.1]; exact H.tm i hi
      · exact H.tm j hj
  · rw [key] at hv hvp ⊢
    by_cases c : j = i
    · subst c
      rw [if_pos rfl] at hv hvp ⊢
      rw [hct.2.2.1]
      rcases hcv p hvp with h | ⟨rfl, cy⟩
      · exact he _ _ _ (H.vote j hj (hcs hv) p hp h)
      · unfold ifG; rw [if_pos cy]; exact putG_same _ _ _ _
    · rw [if_neg c] at hv hvp ⊢
      by_cases c2 : j = k
      · subst c2
        rw [if_pos rfl] at hv hvp ⊢
        rcases g3 with g | g
        · rw [g.2] at hv hvp; rw [g.1]; exact he _ _ _ (H.vote j hj hv p hp hvp)
        · rw [g.2.2] at hv; cases hv
      · rw [if_neg c2] at hv hvp ⊢
        exact he _ _ _ (H.vote j hj hv p hp hvp)
  · rw [key]
    by_cases c : p = i
    · subst c
      rw [if_pos rfl, hct.2.2.1, hct.2.2.2]
      have hGp : ifG y G k (V p).term p p t = G p t := by
        unfold ifG; split
        · exact putG_other G p (fun x => hik x.1)
        · rfl
      rw [hGp] at h
      exact H.gave p hp t j h
    · rw [if_neg c]
      by_cases c2 : p = k
      · subst c2
        rw [if_pos rfl]
        by_cases cy : y = true
        · obtain ⟨q1, q2, q3, q4⟩ := g4 cy
          by_cases c3 : t = (V i).term
          · subst c3
            unfold ifG at h
            rw [if_pos cy, putG_same] at h
            obtain rfl := Option.some.inj h
            rw [q1, q2]
            exact ⟨Int.le_refl _, fun _ => rfl⟩
          · unfold ifG at h
            rw [if_pos cy, putG_other G i (fun x => c3 x.2)] at h
            have := (H.gave p hp t j h).1
            rw [q1]
            exact ⟨by omega, fun e => absurd e c3⟩
        · have cy' : y = false := by simpa using cy
          unfold ifG at h
          rw [if_neg cy] at h
          have h7 := H.gave p hp t j h
          rcases g3 with g | g
          · rw [g.1, g5 cy' g.1]; exact h7
          · rw [g.2.1]; exact ⟨by omega, fun e => by omega⟩
      · rw [if_neg c2]
        have hGp : ifG y G k (V i).term i p t = G p t := by
          unfold ifG; split
          · exact putG_other G i (fun x => c2 x.1)
          · rfl
        rw [hGp] at h
        exact H.gave p hp t j h

/-- Who wins. -/
theorem Grp.major {n i : Nat} {V : Nat → Vt} {G : Nat → Int → Option Nat} {L : Int → Option Nat} {T : Nat} (H : Grp n V G L T) (hi : i < n) (hw : (V i).won = true) : n < 2 * (uptoV (fun p => decide (G p (V i).term = some i)) n).length := by
  have hw' := (Bool.and_eq_true _ _).mp hw
  have hw1 : (V i).vt i = true := by have := hw'.1; rw [H.me i hi] at this; exact this
  have hw2 : (V i).n < 2 * (V i).cnt := of_decide_eq_true hw'.2
  have hc : (V i).cnt = (uptoV (V i).vt n).length := by unfold Vt.cnt; rw [H.nn i hi]
  rw [hc, H.nn i hi] at hw2
  have h2 := cnt_mono (f := (V i).vt) (g := fun p => decide (G p (V i).term = some i)) (n := n) (fun p hp hv => by simp only [decide_eq_true_eq]; exact H.vote i hi hw1 p hp hv)
  omega
theorem Grp.alone {n i : Nat} {V : Nat → Vt} {G : Nat → Int → Option Nat} {L : Int → Option Nat} {T : Nat} (H : Grp n V G L T) (hi : i < n) (hw : (V i).won = true) (who : Nat) (hl : L (V i).term = some who) : who = i := by
  have h1 := H.major hi hw
  have h2 := H.lead _ _ hl
  by_cases c : who = i
  · exact c
  · have h3 := cnt_apart (f := fun p => decide (G p (V i).term = some i)) (g := fun p => decide (G p (V i).term = some who)) (n := n) (fun p _ ha hb => by
      simp only [decide_eq_true_eq] at ha hb
      rw [ha] at hb
      exact c (Option.some.inj hb).symm)
    omega
theorem Grp.win {n i : Nat} {V : Nat → Vt} {G : Nat → Int → Option Nat} {L : Int → Option Nat} {T : Nat} (H : Grp n V G L T) (hi : i < n) (hw : (V i).won = true) : Grp n V G (putW L (V i).term i) T := by
  refine ⟨H.ok, H.nn, H.me, H.tm, H.vote, H.gave, fun t j h => ?_⟩
  unfold putW at h
  by_cases c : t = (V i).term
  · subst c
    rw [if_pos rfl] at h
    obtain rfl := Option.some.inj h
    exact H.major hi hw
  · rw [if_neg c] at h; exact H.lead t j h
theorem Grp.later {n : Nat} {V : Nat → Vt} {G : Nat → Int → Option Nat} {L : Int → Option Nat} {T T' : Nat} (H : Grp n V G L T) (h : T ≤ T') : Grp n V G L T' :=
  ⟨H.ok, H.nn, H.me, fun j hj => by have := H.tm j hj; omega, H.vote, H.gave, H.lead⟩
theorem Grp.start {n : Nat} {V : Nat → Vt} (h0 : 1 ≤ n) (h1 : n ≤ 5) (hV : ∀ j, j < n → V j = Vt.new n j 0 (-1)) : Grp n V (fun _ _ => none) (fun _ => none) 0 := by
  refine ⟨fun j hj => ?_, fun j hj => by rw [hV j hj]; rfl, fun j hj => by rw [hV j hj]; rfl, fun j hj => by rw [hV j hj]; exact Int.le_refl _, fun j hj hv => ?_, nofun, nofun⟩
  · rw [hV j hj]; exact ⟨h0, h1, hj, Int.le_refl 0, (by decide : (0 : Int) ≤ 1099511627776), Int.le_refl (-1), by show (-1 : Int) < n; omega⟩
  · rw [hV j hj] at hv; cases hv
end Go.Proofs.Ytpadbbkklmgimaa
