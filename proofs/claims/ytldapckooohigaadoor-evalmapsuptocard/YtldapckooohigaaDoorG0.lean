/- A map less a key; what Apply's map holds, pure. -/
import Derived.Test.YtldapckooohigaaDoorE38
import Derived.Test.YtldapckooohigaaDoorJI
import Derived.Test.YtldapckooohigaaDoorJH
namespace Go.Proofs.YtldapckooohigaaDoor
open Go.RowKit
open Go.ChangeMaps (setBlock heap_setBlock_same heap_setBlock_other)
set_option maxRecDepth 100000

def offV (l : List (Ky × Value)) (k : Ky) : List (Ky × Value) := l.filter fun q => !decide (q.1 = k)
theorem offV_no {l : List (Ky × Value)} {k : Ky} (h : ∀ q ∈ l, q.1 ≠ k) : offV l k = l := List.filter_eq_self.2 fun q hq => by simp [h q hq]
theorem offV_at : ∀ {l : List (Ky × Value)} {j : Nat} {k : Ky}, (l.map (·.1)).Nodup → (l.map (·.1))[j]? = some k → offV l k = l.eraseIdx j
  | [], j, k, _, h => by simp at h
  | q :: r, 0, k, hn, h => by
    have e : q.1 = k := by simpa using h
    have hn' := List.nodup_cons.1 hn
    show (q :: r).filter _ = r
    rw [List.filter_cons_of_neg (by simp [e])]
    exact offV_no fun x hx c => hn'.1 (List.mem_map.2 ⟨x, hx, c.trans e.symm⟩)
  | q :: r, j + 1, k, hn, h => by
    have hn' := List.nodup_cons.1 hn
    have h' : (r.map (·.1))[j]? = some k := by simpa using h
    have e : q.1 ≠ k := fun c => hn'.1 (show q.1 ∈ r.map (·.1) by rw [c]; exact List.mem_of_getElem? h')
    show (q :: r).filter _ = q :: r.eraseIdx j
    rw [List.filter_cons_of_pos (by simp [e])]
    congr 1
    exact offV_at hn'.2 h'
theorem stp_erase {es : Array MapEntry} {clock j : Nat} (h : Stp es clock) {es' : Array MapEntry} (he : es'.toList = es.toList.eraseIdx j) : Stp es' clock := by
  have hs : es'.toList.Sublist es.toList := he ▸ List.eraseIdx_sublist _ _
  exact ⟨fun e h1 => h.1 e (hs.subset h1), h.2.sublist (hs.map _)⟩
theorem map_del {w : World} {mb : Nat} {l : List (Ky × Value)} {T E : TypeId} (hT : Tryd.prog.underlying T = some (.map 38 E)) (h : MapAt w mb l) (ho : ∀ q ∈ l, OkK q.1) (hn : (l.map (·.1)).Nodup) {k : Ky} (hk : OkK k) :
    ∃ y, (∀ ty, (Builtin.delete_ #[T, 38] ty #[.map (some mb), .agg #[.int .i32 k.1, .int .i64 k.2]]).run Tryd.prog w = .ok (.tuple #[]) y) ∧ MapAt y mb (offV l k) ∧ (∀ j, j ≠ mb → y.heap[j]? = w.heap[j]?) ∧ y.heap.size = w.heap.size ∧ y.os = w.os ∧ y.tape = w.tape ∧ y.output = w.output := by
  obtain ⟨es, clock, hm, hes, hst⟩ := h
  have hent : ∀ (j : Nat) (e : MapEntry), es.toList[j]? = some e → ∃ q, l[j]? = some q ∧ e.key = keyV q.1.1 q.1.2 := fun j e he => by
    have h4 : (es.toList.map (fun e => (e.key, e.val)))[j]? = some (e.key, e.val) := by rw [List.getElem?_map, he]; rfl
    rw [hes, List.getElem?_map] at h4
    obtain ⟨q, hq, e4⟩ := Option.map_eq_some_iff.1 h4
    exact ⟨q, hq, (congrArg Prod.fst e4).symm⟩
  obtain ⟨s, hs⟩ := keyOf_key hk
  have hall : ∀ e ∈ es.toList, ∃ l, keyOf Tryd.prog 38 e.key = some l := fun e he => by
    obtain ⟨j, hj⟩ := List.getElem?_of_mem he
    obtain ⟨q, hq, e1⟩ := hent j e hj
    rw [e1]
    exact keyOf_key (ho q (List.mem_of_getElem? hq))
  have h4 := fun b => key_law.check w b hs
  rcases key_law.find w hs es.toList hall with ⟨h1, h2⟩ | ⟨j, e0, h1, h2, h3⟩
  · have hno : ∀ q ∈ l, q.1 ≠ k := fun q hq c => by
      obtain ⟨j, hj⟩ := List.getElem?_of_mem hq
      have hl : es.toList.length = l.length := by simpa using congrArg List.length hes
      have hjl : j < es.toList.length := by rw [hl]; exact (List.getElem?_eq_some_iff.1 hj).1
      obtain ⟨q', hq', e1⟩ := hent j _ (List.getElem?_eq_getElem hjl)
      rw [hj] at hq'
      injection hq' with hq'
      subst hq'
      exact h2 _ (List.getElem_mem hjl) (by rw [e1, c])
    refine ⟨setBlock w mb (.map es clock), ?_, ⟨_, _, heap_setBlock_same hm _, by rw [offV_no hno]; exact hes, hst⟩, fun j hj => heap_setBlock_other hm _ hj, by simp [setBlock], rfl, rfl, rfl⟩
    intro ty
    unfold keyV at h1 h4
    simp [Builtin.delete_, run_underlying hT, MapKept.run_getObj_map hm, h4, h1, MapKept.run_setObj_map _ hm, Result.andThen, setBlock]
  · obtain ⟨q, hq, e1⟩ := hent j e0 h2
    have e3 : q.1 = k := keyV_inj (e1.symm.trans h3)
    have hjs : j < es.size := by have := (List.getElem?_eq_some_iff.1 h2).1; simpa using this
    have hsub : (es.eraseIdxIfInBounds j).toList = es.toList.eraseIdx j := by
      unfold Array.eraseIdxIfInBounds
      rw [dif_pos hjs]
      simp
    refine ⟨setBlock w mb (.map (es.eraseIdxIfInBounds j) clock), ?_, ⟨_, _, heap_setBlock_same hm _, ?_, stp_erase hst hsub⟩, fun j hj => heap_setBlock_other hm _ hj, by simp [setBlock], rfl, rfl, rfl⟩
    · intro ty
      unfold keyV at h1 h4
      simp [Builtin.delete_, run_underlying hT, MapKept.run_getObj_map hm, h4, h1, MapKept.run_setObj_map _ hm, Result.andThen, setBlock]
    · rw [offV_at hn (by rw [List.getElem?_map, hq, ← e3]; rfl), hsub, ChangeMaps.map_eraseIdx, ChangeMaps.map_eraseIdx, hes]
/-- What Apply's map holds behind a change. -/
def stepA (D : List Pr) (c : Ch) : List Pr := if c.2.2 then offP c.1 D else addP D (c.1, c.2.1)
def dA (m : List Pr) (l : List Ch) : List Pr := l.foldl stepA (ddP m)
theorem dA_snoc (m : List Pr) (l : List Ch) (c : Ch) : dA m (l ++ [c]) = stepA (dA m l) c := by simp [dA]
theorem offV_prE (D : List Pr) (k : Ky) : offV (D.map prE) k = (offP k D).map prE := by
  unfold offV offP
  rw [List.filter_map]
  rfl
theorem dA_spec (m : List Pr) (l : List Ch) : (keysOf (dA m l)).Nodup ∧ (∀ k u, (k, u) ∈ dA m l ↔ apV m l k = some u) ∧ (dA m l).length ≤ m.length + l.length := by
  refine snocInd (P := fun l => (keysOf (dA m l)).Nodup ∧ (∀ k u, (k, u) ∈ dA m l ↔ apV m l k = some u) ∧ (dA m l).length ≤ m.length + l.length) ?_ (fun l c ih => ?_) l
  · exact ddP_spec m
  · obtain ⟨h1, h2, h3⟩ := ih
    rw [dA_snoc]
    unfold stepA
    by_cases he : c.2.2 = true
    · rw [if_pos he]
      refine ⟨?_, fun k u => ?_, ?_⟩
      · have hs : (offP c.1 (dA m l)).Sublist (dA m l) := List.filter_sublist
        exact h1.sublist (hs.map _)
      · rw [apV_snoc, if_pos he]
        unfold offP
        rw [List.mem_filter, h2]
        by_cases e : c.1 = k
        · rw [if_pos e]
          constructor
          · rintro ⟨_, h⟩
            simp [e] at h
          · intro h; cases h
        · rw [if_neg e]
          constructor
          · exact fun h => h.1
          · exact fun h => ⟨h, by simp [Ne.symm e]⟩
      · have : (offP c.1 (dA m l)).length ≤ (dA m l).length := List.length_filter_le _ _
        rw [List.length_append]
        omega
    · rw [if_neg he]
      refine ⟨by rw [addP_keys]; exact addK_nodup h1 _, fun k u => ?_, ?_⟩
      · rw [apV_snoc, addP_mem h1, if_neg he, h2]
        by_cases e : c.1 = k
        · rw [if_pos e]
          constructor
          · rintro (d | d)
            · rw [Prod.mk.injEq] at d; rw [d.2]
            · exact absurd e.symm d.2
          · intro d
            injection d with d
            exact .inl (by rw [← e, ← d])
        · rw [if_neg e]
          constructor
          · rintro (d | d)
            · exact absurd (congrArg Prod.fst d).symm e
            · exact d.1
          · exact fun d => .inr ⟨d, Ne.symm e⟩
      · have : (addP (dA m l) (c.1, c.2.1)).length ≤ (dA m l).length + 1 := by unfold addP; split <;> simp
        rw [List.length_append, List.length_singleton]
        omega
theorem dA_ok {m : List Pr} {l : List Ch} (h1 : ∀ p ∈ m, OkK p.1) (h2 : ∀ c ∈ l, OkK c.1) : ∀ k ∈ keysOf (dA m l), OkK k := by
  revert h2
  refine snocInd (P := fun l => (∀ c ∈ l, OkK c.1) → ∀ k ∈ keysOf (dA m l), OkK k) ?_ (fun l c ih => ?_) l
  · intro _; exact keysOf_ddP_ok h1
  · intro h k hk
    have ih := ih fun c hc => h c (List.mem_append_left _ hc)
    have hc := h c (List.mem_append_right _ (List.mem_singleton.2 rfl))
    rw [dA_snoc] at hk
    unfold stepA at hk
    obtain ⟨p, hp, rfl⟩ := List.mem_map.1 hk
    split at hp
    · exact ih _ (List.mem_map.2 ⟨p, (List.mem_filter.1 hp).1, rfl⟩)
    · rcases (addP_mem (dA_spec m l).1 _ _).1 hp with e | e
      · rw [e]; exact hc
      · exact ih _ (List.mem_map.2 ⟨p, e.1, rfl⟩)
theorem dA_fin {m D' : List Pr} {l : List Ch} (hp : D'.Perm (dA m l)) : srtP D' = appD m l := by
  obtain ⟨h1, h2, _⟩ := dA_spec m l
  have hn : (keysOf D').Nodup := (hp.map _).nodup_iff.2 h1
  obtain ⟨s1, s2, _⟩ := srtP_spec D'
  exact appD_of s1 fun k u => by rw [s2, valOf_mem hn, hp.mem_iff, h2]
end Go.Proofs.YtldapckooohigaaDoor
