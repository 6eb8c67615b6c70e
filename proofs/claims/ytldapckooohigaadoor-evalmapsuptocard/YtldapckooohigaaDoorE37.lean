/- Apply, pure: the document's way, and what it leaves. -/
import Derived.Test.YtldapckooohigaaDoorE36
namespace Go.Proofs.YtldapckooohigaaDoor
open Go.RowKit

/-- What a key has behind changes. -/
def apV (m : List Pr) (l : List Ch) (k : Ky) : Option Int :=
  match valC l k with
  | none => valOf m k
  | some (v, e) => if e then none else some v
theorem apV_snoc (m : List Pr) (l : List Ch) (c : Ch) (k : Ky) : apV m (l ++ [c]) k = if c.1 = k then (if c.2.2 then none else some c.2.1) else apV m l k := by
  unfold apV
  rw [valC_snoc]
  by_cases h : c.1 = k
  · rw [if_pos h, if_pos h]
  · rw [if_neg h, if_neg h]
def offP (k : Ky) (o : List Pr) : List Pr := o.filter fun p => !decide (p.1 = k)
theorem offP_snoc (k : Ky) (o : List Pr) (p : Pr) : offP k (o ++ [p]) = if p.1 = k then offP k o else offP k o ++ [p] := by
  unfold offP
  rw [List.filter_append]
  by_cases h : p.1 = k
  · rw [if_pos h, List.filter_cons_of_neg (by simp [h])]; simp
  · rw [if_neg h, List.filter_cons_of_pos (by simp [h])]; rfl
theorem valOf_off (c k : Ky) (o : List Pr) : valOf (offP c o) k = if c = k then none else valOf o k := by
  refine snocInd (P := fun o => valOf (offP c o) k = if c = k then none else valOf o k) ?_ (fun o p ih => ?_) o
  · simp [offP, valOf]
  · rw [offP_snoc, valOf_snoc]
    by_cases h : p.1 = c
    · rw [if_pos h, ih]
      by_cases e : c = k
      · rw [if_pos e, if_pos e]
      · rw [if_neg e, if_neg e, if_neg (fun x => e (h.symm.trans x))]
    · rw [if_neg h, valOf_snoc, ih]
      by_cases e : p.1 = k
      · rw [if_pos e, if_neg (fun x => h (e.trans x.symm)), if_pos e]
      · rw [if_neg e, if_neg e]
def tailP (c : Ch) : List Pr := if c.2.2 then [] else [(c.1, c.2.1)]
def appO (o : List Pr) (c : Ch) : List Pr := srtP (offP c.1 o ++ tailP c)
def appD (m : List Pr) (l : List Ch) : List Pr := l.foldl appO (srtP m)
theorem appD_snoc (m : List Pr) (l : List Ch) (c : Ch) : appD m (l ++ [c]) = appO (appD m l) c := by simp [appD]
theorem val_rises {o : List Pr} (h : RisesP o) (k : Ky) (u : Int) : (k, u) ∈ o ↔ valOf o k = some u := by
  have hn : (keysOf o).Nodup := by
    unfold keysOf List.Nodup
    rw [List.pairwise_map]
    exact h.imp fun {a b} hab e => by rw [e] at hab; unfold ltK at hab; omega
  exact (valOf_mem hn k u).symm
theorem appD_spec (m : List Pr) (l : List Ch) : RisesP (appD m l) ∧ (∀ k u, (k, u) ∈ appD m l ↔ apV m l k = some u) ∧ (appD m l).length ≤ m.length + l.length := by
  refine snocInd (P := fun l => RisesP (appD m l) ∧ (∀ k u, (k, u) ∈ appD m l ↔ apV m l k = some u) ∧ (appD m l).length ≤ m.length + l.length) ?_ (fun l c ih => ?_) l
  · exact srtP_spec m
  · obtain ⟨h1, h2, h3⟩ := ih
    have hv : ∀ k, valOf (appD m l) k = apV m l k := fun k => by
      refine Option.ext fun u => ?_
      rw [← h2, val_rises h1]
    rw [appD_snoc]
    obtain ⟨s1, s2, s3⟩ := srtP_spec (offP c.1 (appD m l) ++ tailP c)
    refine ⟨s1, fun k u => ?_, ?_⟩
    · show (k, u) ∈ srtP _ ↔ _
      rw [s2, apV_snoc]
      unfold tailP
      by_cases he : c.2.2 = true
      · rw [if_pos he, List.append_nil, valOf_off, hv]
        by_cases hk : c.1 = k
        · rw [if_pos hk, if_pos hk, if_pos he]
        · rw [if_neg hk, if_neg hk]
      · rw [if_neg he, valOf_snoc, valOf_off, hv]
        by_cases hk : c.1 = k
        · rw [if_pos hk, if_pos hk, if_neg he]
        · rw [if_neg hk, if_neg hk, if_neg hk]
    · refine Nat.le_trans s3 ?_
      have h4 : (offP c.1 (appD m l)).length ≤ (appD m l).length := List.length_filter_le _ _
      have h5 : (tailP c).length ≤ 1 := by unfold tailP; split <;> simp
      simp only [List.length_append, List.length_cons, List.length_nil]
      omega
theorem appD_of {m r : List Pr} {l : List Ch} (hr : RisesP r) (hm : ∀ k u, (k, u) ∈ r ↔ apV m l k = some u) : r = appD m l := risesP_ext hr (appD_spec m l).1 fun ⟨k, u⟩ => by rw [hm, (appD_spec m l).2.1]
end Go.Proofs.YtldapckooohigaaDoor
