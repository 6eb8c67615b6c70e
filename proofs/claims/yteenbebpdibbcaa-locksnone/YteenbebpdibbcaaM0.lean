/- Maps whose keys are keys, told by what they hold of each key. -/
import Derived.Test.YteenbebpdibbcaaC1
namespace Go.Proofs.Yteenbebpdibbcaa
open Go.RowKit
open Go.ChangeMaps (setBlock heap_setBlock_same heap_setBlock_other)
set_option maxRecDepth 100000

def addV (l : List (Ky × Value)) (q : Ky × Value) : List (Ky × Value) := if q.1 ∈ l.map (·.1) then l.set ((l.map (·.1)).idxOf q.1) q else l ++ [q]
section
variable {w : World} {mb : Nat} {l : List (Ky × Value)} {T E : TypeId}
/-- A key that isn't there. -/
theorem look1_no (hT : Try.prog.underlying T = some (.map 45 E)) {z : Value} (hz : ∀ w, (zeroValue E).run Try.prog w = .ok z w) (h : MapAt w mb l) (ho : ∀ q ∈ l, OkK q.1) {k : Ky} (hk : OkK k) (hno : ∀ q ∈ l, q.1 ≠ k) :
    (Instr.lookup T (.map (some mb)) (keyV k.1 k.2) false).run Try.prog w = .ok z w := by
  obtain ⟨es, clock, hm, hes, hent, hrev⟩ := h.ents
  obtain ⟨s, hs⟩ := keyOf_key hk
  have hall : ∀ e ∈ es.toList, ∃ l, keyOf Try.prog 45 e.key = some l := fun e he => by
    obtain ⟨q, hq, e1, _⟩ := hent e he
    rw [e1]
    exact keyOf_key (ho q hq)
  rcases key_law.find w hs es.toList hall with ⟨h1, _⟩ | ⟨j, e0, _, h2, h3⟩
  · simp [Instr.lookup, run_underlying hT, MapKept.run_getObj_map hm, key_law.check w _ hs, h1, Result.andThen, hz]
  · obtain ⟨q, hq, e1, _⟩ := hent e0 (List.mem_of_getElem? h2)
    exact absurd (keyV_inj (e1.symm.trans h3)) (hno q hq)
/-- A key that is there. -/
theorem look1_has (hT : Try.prog.underlying T = some (.map 45 E)) (h : MapAt w mb l) (ho : ∀ q ∈ l, OkK q.1) (hn : (l.map (·.1)).Nodup) {k : Ky} {u : Value} (hin : (k, u) ∈ l) :
    (Instr.lookup T (.map (some mb)) (keyV k.1 k.2) false).run Try.prog w = .ok u w := by
  obtain ⟨es, clock, hm, hes, hent, hrev⟩ := h.ents
  obtain ⟨s, hs⟩ := keyOf_key (ho _ hin)
  have hall : ∀ e ∈ es.toList, ∃ l, keyOf Try.prog 45 e.key = some l := fun e he => by
    obtain ⟨q, hq, e1, _⟩ := hent e he
    rw [e1]
    exact keyOf_key (ho q hq)
  rcases key_law.find w hs es.toList hall with ⟨_, h2⟩ | ⟨j, e0, h1, h2, h3⟩
  · obtain ⟨e, he, e1⟩ := hrev _ hin
    exact absurd e1 (h2 e he)
  · obtain ⟨q, hq, e1, e2⟩ := hent e0 (List.mem_of_getElem? h2)
    have e3 : q.1 = k := keyV_inj (e1.symm.trans h3)
    have e4 : q = (k, u) := by
      obtain ⟨i, hi, rfl⟩ := List.getElem_of_mem hq
      obtain ⟨i', hi', e5⟩ := List.getElem_of_mem hin
      have hpw := List.pairwise_iff_getElem.1 hn
      rcases Nat.lt_trichotomy i i' with c | c | c
      · have := hpw i i' (by simpa using hi) (by simpa using hi') c
        simp only [List.getElem_map, e5] at this
        exact absurd e3 this
      · subst c; exact e5
      · have := hpw i' i (by simpa using hi') (by simpa using hi) c
        simp only [List.getElem_map, e5] at this
        exact absurd e3.symm this
    rw [e4] at e2
    simp [Instr.lookup, run_underlying hT, MapKept.run_getObj_map hm, key_law.check w _ hs, h1, Result.andThen, e2]
theorem map_put (hT : Try.prog.underlying T = some (.map 45 E)) (h : MapAt w mb l) (ho : ∀ q ∈ l, OkK q.1) (hn : (l.map (·.1)).Nodup) {k : Ky} (hk : OkK k) (u : Value) :
    ∃ y, (Instr.mapUpdate T (.map (some mb)) (keyV k.1 k.2) u).run Try.prog w = .ok () y ∧ MapAt y mb (addV l (k, u)) ∧ (∀ j, j ≠ mb → y.heap[j]? = w.heap[j]?) ∧ y.heap.size = w.heap.size ∧ y.os = w.os ∧ y.tape = w.tape ∧ y.output = w.output := by
  by_cases hin : k ∈ l.map (·.1)
  · obtain ⟨es, clock, hm, hes, hent, hrev⟩ := h.ents
    obtain ⟨s, hs⟩ := keyOf_key hk
    have hall : ∀ e ∈ es.toList, ∃ l, keyOf Try.prog 45 e.key = some l := fun e he => by
      obtain ⟨q, hq, e1, _⟩ := hent e he
      rw [e1]
      exact keyOf_key (ho q hq)
    rcases key_law.find w hs es.toList hall with ⟨_, h2⟩ | ⟨j, e0, h1, h2, h3⟩
    · obtain ⟨q, hq, rfl⟩ := List.mem_map.1 hin
      obtain ⟨e, he, e1⟩ := hrev _ hq
      exact absurd e1 (h2 e he)
    · have hj : es[j]? = some e0 := by simpa using h2
      have hlen : es.toList.length = l.length := by simpa using congrArg List.length hes
      have hjl : j < l.length := by rw [← hlen]; exact (List.getElem?_eq_some_iff.1 h2).1
      have hkj : l[j].1 = k := by
        have h4 : (es.toList.map (fun e => (e.key, e.val)))[j]? = some (e0.key, e0.val) := by rw [List.getElem?_map, h2]; rfl
        rw [hes, List.getElem?_map, List.getElem?_eq_getElem hjl] at h4
        simp only [Option.map_some, Option.some.injEq, Prod.mk.injEq] at h4
        exact keyV_inj (h4.1.trans h3)
      have hidx : (l.map (·.1)).idxOf k = j := by
        have hi := List.idxOf_lt_length_of_mem hin
        have hg := List.getElem_idxOf hi
        refine (List.getElem_inj (h₀ := hi) (h₁ := by simpa using hjl) hn).1 ?_
        rw [hg, List.getElem_map, hkj]
      refine ⟨setBlock w mb (.map (es.modify j (fun e' => { e' with key := keyV k.1 k.2, val := u })) clock), ?_, ⟨_, _, heap_setBlock_same hm _, ?_⟩, fun j hj => heap_setBlock_other hm _ hj, by simp [setBlock], rfl, rfl, rfl⟩
      · have h4 := fun b => key_law.check w b hs
        have h5 := key_law.stays w hs
        unfold keyV at h1 h3 h4 h5
        simp [Instr.mapUpdate, run_underlying hT, MapKept.run_getObj_map hm, h4, h1, hj, h3, h5, MapKept.run_setObj_map _ hm, Result.andThen, setBlock, keyV]
      · unfold addV
        rw [if_pos hin, hidx, Array.toList_modify, ChangeMaps.modify_eq_set _ _ _ _ h2, List.map_set, hes, List.map_set]
  · obtain ⟨y, h1, h2, h3⟩ := put_new hT h ho hk (fun q hq e => hin (List.mem_map.2 ⟨q, hq, e⟩)) u
    exact ⟨y, h1, by unfold addV; rw [if_neg hin]; exact h2, h3⟩
end
theorem addV_mem {l : List (Ky × Value)} (hn : (l.map (·.1)).Nodup) (k : Ky) (u : Value) (x : Ky) (v : Value) : (x, v) ∈ addV l (k, u) ↔ if x = k then v = u else (x, v) ∈ l := by
  unfold addV
  by_cases hin : k ∈ l.map (·.1)
  · rw [if_pos hin]
    have hi := List.idxOf_lt_length_of_mem hin
    have hil : (l.map (·.1)).idxOf k < l.length := by simpa using hi
    have hg : (l[(l.map (·.1)).idxOf k]'hil).1 = k := by
      have := List.getElem_idxOf hi
      rw [List.getElem_map] at this
      exact this
    generalize (l.map (·.1)).idxOf k = i at *
    constructor
    · intro h
      obtain ⟨j, hj⟩ := List.getElem?_of_mem h
      rw [List.getElem?_set] at hj
      split at hj
      · obtain ⟨rfl, rfl⟩ := Prod.mk.inj (Option.some.inj hj)
        simp
      · rename_i hne
        have hx : x ≠ k := fun e => by
          obtain ⟨hjl, hj2⟩ := List.getElem?_eq_some_iff.1 hj
          have h1 : (l.map (·.1))[j]'(by simpa using hjl) = (l.map (·.1))[i]'(by simpa using hil) := by simp [hj2, hg, e]
          exact hne ((List.getElem_inj hn).1 h1).symm
        rw [if_neg hx]
        exact List.mem_of_getElem? hj
    · intro h
      split at h
      · rename_i e
        subst e h
        exact List.mem_iff_getElem?.2 ⟨i, by rw [List.getElem?_set, if_pos rfl, if_pos hil]⟩
      · rename_i hne
        obtain ⟨j, hj⟩ := List.getElem?_of_mem h
        refine List.mem_iff_getElem?.2 ⟨j, ?_⟩
        rw [List.getElem?_set, if_neg (fun e => ?_)]
        · exact hj
        · subst e
          rw [List.getElem?_eq_getElem hil] at hj
          have := Option.some.inj hj
          rw [this] at hg
          exact hne hg
  · rw [if_neg hin]
    rw [List.mem_append, List.mem_singleton, Prod.mk.injEq]
    constructor
    · rintro (h | ⟨rfl, rfl⟩)
      · have hx : x ≠ k := fun e => hin (List.mem_map.2 ⟨_, h, e⟩)
        rw [if_neg hx]
        exact h
      · simp
    · intro h
      split at h
      · rename_i e
        exact .inr ⟨e, h⟩
      · exact .inl h
theorem addV_nodup {l : List (Ky × Value)} (hn : (l.map (·.1)).Nodup) (q : Ky × Value) : ((addV l q).map (·.1)).Nodup := by
  unfold addV
  by_cases hin : q.1 ∈ l.map (·.1)
  · rw [if_pos hin]
    have hi := List.idxOf_lt_length_of_mem hin
    have hg := List.getElem_idxOf hi
    rw [List.map_set]
    have : (l.map (·.1)).set ((l.map (·.1)).idxOf q.1) q.1 = l.map (·.1) := by
      refine List.ext_getElem? fun j => ?_
      rw [List.getElem?_set]
      split
      · rename_i e
        rw [← e, List.getElem?_eq_getElem hi, hg]
      · rfl
    rw [this]
    exact hn
  · rw [if_neg hin, List.map_append, List.nodup_append]
    refine ⟨hn, by simp, fun a ha b hb => ?_⟩
    simp only [List.map_cons, List.map_nil, List.mem_singleton] at hb
    subst hb
    exact fun e => hin (e ▸ ha)

/-- A map in memory that holds f k of each key k. -/
def MapS (w : World) (mb : Nat) (f : Ky → Option Value) : Prop := ∃ l, MapAt w mb l ∧ (∀ q ∈ l, OkK q.1) ∧ (l.map (·.1)).Nodup ∧ ∀ k u, (k, u) ∈ l ↔ f k = some u
theorem MapS.below {w w' : World} {mb : Nat} {f : Ky → Option Value} (h : MapS w mb f) (hb : Below w.heap.size w w') : MapS w' mb f := by
  obtain ⟨l, h1, h2⟩ := h
  exact ⟨l, h1.below hb, h2⟩
theorem MapS.keep {w w' : World} {mb : Nat} {f : Ky → Option Value} (h : MapS w mb f) (hb : w'.heap[mb]? = w.heap[mb]?) : MapS w' mb f := by
  obtain ⟨l, h1, h2⟩ := h
  exact ⟨l, h1.keep hb, h2⟩
theorem MapS.lt {w : World} {mb : Nat} {f : Ky → Option Value} (h : MapS w mb f) : mb < w.heap.size := by
  obtain ⟨l, h1, h2⟩ := h
  exact h1.lt
theorem MapS.apart {w : World} {mb g : Nat} {f : Ky → Option Value} (h : MapS w mb f) {cur : Array Value} {T : TypeId} {m : Nat × Nat} (hg : w.heap[g]? = some (.cells cur T m)) : g ≠ mb := by
  obtain ⟨l, h1, h2⟩ := h
  exact h1.apart hg
theorem MapS.start (w : World) : MapS (w.alloc (.map #[] 0)) w.heap.size fun _ => none := ⟨[], ⟨#[], 0, heap_alloc_new w _, rfl⟩, by simp, by simp, by simp⟩
section
variable {w : World} {mb : Nat} {f : Ky → Option Value} {T E : TypeId}
theorem MapS.look (hT : Try.prog.underlying T = some (.map 45 E)) {z : Value} (hz : ∀ w, (zeroValue E).run Try.prog w = .ok z w) (h : MapS w mb f) (a b : Int) (hk : OkK (a, b)) :
    (Instr.lookup T (.map (some mb)) (.agg #[.int .i32 a, .int .i64 b]) true).run Try.prog w = .ok (.tuple #[(f (a, b)).getD z, .bool (f (a, b)).isSome]) w := by
  obtain ⟨l, h1, h2, h3, h4⟩ := h
  cases hf : f (a, b) with
  | none =>
    refine look_no (k := (a, b)) hT hz h1 h2 hk (fun q hq e => ?_)
    have := (h4 q.1 q.2).1 hq
    rw [e, hf] at this
    cases this
  | some u => exact look_has (k := (a, b)) hT h1 h2 h3 ((h4 _ _).2 hf)
theorem MapS.look1 (hT : Try.prog.underlying T = some (.map 45 E)) {z : Value} (hz : ∀ w, (zeroValue E).run Try.prog w = .ok z w) (h : MapS w mb f) (a b : Int) (hk : OkK (a, b)) :
    (Instr.lookup T (.map (some mb)) (.agg #[.int .i32 a, .int .i64 b]) false).run Try.prog w = .ok ((f (a, b)).getD z) w := by
  obtain ⟨l, h1, h2, h3, h4⟩ := h
  cases hf : f (a, b) with
  | none =>
    refine look1_no (k := (a, b)) hT hz h1 h2 hk (fun q hq e => ?_)
    have := (h4 q.1 q.2).1 hq
    rw [e, hf] at this
    cases this
  | some u => exact look1_has (k := (a, b)) hT h1 h2 h3 ((h4 _ _).2 hf)
/-- f, but u at k. -/
def putF (f : Ky → Option Value) (k : Ky) (u : Value) : Ky → Option Value := fun x => if x = k then some u else f x
theorem MapS.put (hT : Try.prog.underlying T = some (.map 45 E)) (h : MapS w mb f) (a b : Int) (hk : OkK (a, b)) (u : Value) :
    ∃ y, (Instr.mapUpdate T (.map (some mb)) (.agg #[.int .i32 a, .int .i64 b]) u).run Try.prog w = .ok () y ∧ MapS y mb (putF f (a, b) u) ∧ (∀ j, j ≠ mb → y.heap[j]? = w.heap[j]?) ∧ y.heap.size = w.heap.size ∧ y.os = w.os ∧ y.tape = w.tape ∧ y.output = w.output := by
  obtain ⟨l, h1, h2, h3, h4⟩ := h
  obtain ⟨y, r, m, rest⟩ := map_put hT h1 h2 h3 hk u
  refine ⟨y, r, ⟨_, m, fun q hq => ?_, addV_nodup h3 _, fun k v => ?_⟩, rest⟩
  · have := (addV_mem h3 (a, b) u q.1 q.2).1 hq
    split at this
    · rename_i e
      rw [e]; exact hk
    · exact h2 _ this
  · rw [addV_mem h3]
    unfold putF
    split
    · simp only [Option.some.injEq]; exact eq_comm
    · exact h4 _ _
end
def offV (l : List (Ky × Value)) (k : Ky) : List (Ky × Value) := l.filter fun q => !decide (q.1 = k)
theorem offV_no {l : List (Ky × Value)} {k : Ky} (h : ∀ q ∈ l, q.1 ≠ k) : offV l k = l := List.filter_eq_self.2 fun q hq => by simp [h q hq]
theorem offV_at : ∀ {l : List (Ky × Value)} {j : Nat} {k : Ky}, (l.map (·.1)).Nodup → (l.map (·.1))[j]? = some k → offV l k = l.eraseIdx j
  | [], j, k, _, h => by simp at h
  | q :: r, 0, k, hn, h => by
    have e : q.1 = k := by simpa using h
    have hn' := List.nodup_cons.1 hn
    show (q :: r).filter _ = r
    rw [List.filter_cons_of_neg (by simp [e])]
    exact offV_no fun x hx c => hn'.1 (List.mem_map.2 ⟨x, hx, c.trans e.symm⟩)
  | q :: r, j + 1, k, hn, h => by
    have hn' := List.nodup_cons.1 hn
    have h' : (r.map (·.1))[j]? = some k := by simpa using h
    have e : q.1 ≠ k := fun c => hn'.1 (show q.1 ∈ r.map (·.1) by rw [c]; exact List.mem_of_getElem? h')
    show (q :: r).filter _ = q :: r.eraseIdx j
    rw [List.filter_cons_of_pos (by simp [e])]
    congr 1
    exact offV_at hn'.2 h'
section
variable {w : World} {mb : Nat} {l : List (Ky × Value)} {f : Ky → Option Value} {T E : TypeId}
theorem map_del (hT : Try.prog.underlying T = some (.map 45 E)) (h : MapAt w mb l) (ho : ∀ q ∈ l, OkK q.1) (hn : (l.map (·.1)).Nodup) {k : Ky} (hk : OkK k) :
    ∃ y, (∀ ty, (Builtin.delete_ #[T, 45] ty #[.map (some mb), .agg #[.int .i32 k.1, .int .i64 k.2]]).run Try.prog w = .ok (.tuple #[]) y) ∧ MapAt y mb (offV l k) ∧ (∀ j, j ≠ mb → y.heap[j]? = w.heap[j]?) ∧ y.heap.size = w.heap.size ∧ y.os = w.os ∧ y.tape = w.tape ∧ y.output = w.output := by
  obtain ⟨es, clock, hm, hes⟩ := h
  have hent : ∀ (j : Nat) (e : MapEntry), es.toList[j]? = some e → ∃ q, l[j]? = some q ∧ e.key = keyV q.1.1 q.1.2 := fun j e he => by
    have h4 : (es.toList.map (fun e => (e.key, e.val)))[j]? = some (e.key, e.val) := by rw [List.getElem?_map, he]; rfl
    rw [hes, List.getElem?_map] at h4
    obtain ⟨q, hq, e4⟩ := Option.map_eq_some_iff.1 h4
    exact ⟨q, hq, (congrArg Prod.fst e4).symm⟩
  obtain ⟨s, hs⟩ := keyOf_key hk
  have hall : ∀ e ∈ es.toList, ∃ l, keyOf Try.prog 45 e.key = some l := fun e he => by
    obtain ⟨j, hj⟩ := List.getElem?_of_mem he
    obtain ⟨q, hq, e1⟩ := hent j e hj
    rw [e1]
    exact keyOf_key (ho q (List.mem_of_getElem? hq))
  have h4 := fun b => key_law.check w b hs
  rcases key_law.find w hs es.toList hall with ⟨h1, h2⟩ | ⟨j, e0, h1, h2, h3⟩
  · have hno : ∀ q ∈ l, q.1 ≠ k := fun q hq c => by
      obtain ⟨j, hj⟩ := List.getElem?_of_mem hq
      have hl : es.toList.length = l.length := by simpa using congrArg List.length hes
      have hjl : j < es.toList.length := by rw [hl]; exact (List.getElem?_eq_some_iff.1 hj).1
      obtain ⟨q', hq', e1⟩ := hent j _ (List.getElem?_eq_getElem hjl)
      rw [hj] at hq'
      injection hq' with hq'
      subst hq'
      exact h2 _ (List.getElem_mem hjl) (by rw [e1, c])
    refine ⟨setBlock w mb (.map es clock), ?_, ⟨_, _, heap_setBlock_same hm _, by rw [offV_no hno]; exact hes⟩, fun j hj => heap_setBlock_other hm _ hj, by simp [setBlock], rfl, rfl, rfl⟩
    intro ty
    unfold keyV at h1 h4
    simp [Builtin.delete_, run_underlying hT, MapKept.run_getObj_map hm, h4, h1, MapKept.run_setObj_map _ hm, Result.andThen, setBlock]
  · obtain ⟨q, hq, e1⟩ := hent j e0 h2
    have e3 : q.1 = k := keyV_inj (e1.symm.trans h3)
    have hjs : j < es.size := by have := (List.getElem?_eq_some_iff.1 h2).1; simpa using this
    have hsub : (es.eraseIdxIfInBounds j).toList = es.toList.eraseIdx j := by
      unfold Array.eraseIdxIfInBounds
      rw [dif_pos hjs]
      simp
    refine ⟨setBlock w mb (.map (es.eraseIdxIfInBounds j) clock), ?_, ⟨_, _, heap_setBlock_same hm _, ?_⟩, fun j hj => heap_setBlock_other hm _ hj, by simp [setBlock], rfl, rfl, rfl⟩
    · intro ty
      unfold keyV at h1 h4
      simp [Builtin.delete_, run_underlying hT, MapKept.run_getObj_map hm, h4, h1, MapKept.run_setObj_map _ hm, Result.andThen, setBlock]
    · rw [offV_at hn (by rw [List.getElem?_map, hq, ← e3]; rfl), hsub, ChangeMaps.map_eraseIdx, ChangeMaps.map_eraseIdx, hes]
def offF (f : Ky → Option Value) (k : Ky) : Ky → Option Value := fun x => if x = k then none else f x
theorem MapS.del (hT : Try.prog.underlying T = some (.map 45 E)) (h : MapS w mb f) (a b : Int) (hk : OkK (a, b)) :
    ∃ y, (∀ ty, (Builtin.delete_ #[T, 45] ty #[.map (some mb), .agg #[.int .i32 a, .int .i64 b]]).run Try.prog w = .ok (.tuple #[]) y) ∧ MapS y mb (offF f (a, b)) ∧ (∀ j, j ≠ mb → y.heap[j]? = w.heap[j]?) ∧ y.heap.size = w.heap.size ∧ y.os = w.os ∧ y.tape = w.tape ∧ y.output = w.output := by
  obtain ⟨l, h1, h2, h3, h4⟩ := h
  obtain ⟨y, r, m, rest⟩ := map_del hT h1 h2 h3 hk
  refine ⟨y, r, ⟨_, m, fun q hq => h2 q (List.mem_filter.1 hq).1, h3.sublist ((List.filter_sublist).map _), fun k v => ?_⟩, rest⟩
  unfold offV offF
  rw [List.mem_filter, h4]
  by_cases e : k = (a, b)
  · simp [e]
  · simp [e]
end

end Go.Proofs.Yteenbebpdibbcaa
