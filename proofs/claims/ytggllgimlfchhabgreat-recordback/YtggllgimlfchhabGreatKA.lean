/- Several texts as one. -/
import Derived.Test.YtggllgimlfchhabGreatKE
import Derived.Test.YtggllgimlfchhabGreatKP
import Derived.Test.YtggllgimlfchhabGreatKJ
import Derived.Test.YtggllgimlfchhabGreatKR

/- Record: which messages may be, the program's and the document's answer; CheckMsg. -/
namespace Go.Proofs.YtggllgimlfchhabGreat
open Go.RowKit
set_option maxRecDepth 100000

theorem okM_plain {m : MsgD} (h : OkM m) : OkM (plainM m) := by
  obtain ⟨h1, h2, h3⟩ := h
  unfold plainM
  repeat' split
  all_goals first | exact ⟨h1, okTs_nil, fun x hx => by cases hx⟩ | exact ⟨(fun x hx => by cases hx), h2, fun x hx => by cases hx⟩ | exact ⟨(fun x hx => by cases hx), okTs_nil, h3⟩ | exact ⟨(fun x hx => by cases hx), okTs_nil, fun x hx => by cases hx⟩
theorem cnt0 : isCnt 0 = true := by decide
theorem mays_same (m : MsgD) : refMay m = mayMsg m := by
  obtain ⟨k, f, t, a, b, c, d, y, l, e, p⟩ := m
  by_cases h1 : k = 1
  case pos =>
    subst h1
    rw [Bool.eq_iff_iff]
    simp only [refMay, mayMsg, tailM, plainM, fieldsL, runF, fMay, wout, MsgD.mk.injEq, Bool.and_eq_true, decide_eq_true_eq, if_true, if_false, List.isEmpty_cons, Bool.not_false, true_and, and_true, Int.reduceEq, Int.reduceLE, and_self]
    constructor
    · intro h
      simp_all
    · intro h
      simp_all [cnt0]
  by_cases h2 : k = 2
  case pos =>
    subst h2
    rw [Bool.eq_iff_iff]
    simp only [refMay, mayMsg, tailM, plainM, fieldsL, runF, fMay, wout, MsgD.mk.injEq, Bool.and_eq_true, decide_eq_true_eq, if_true, if_false, List.isEmpty_cons, Bool.not_false, true_and, and_true, Int.reduceEq, Int.reduceLE, and_self]
    constructor
    · intro h
      simp_all
    · intro h
      simp_all [cnt0]
  by_cases h3 : k = 3
  case pos =>
    subst h3
    rw [Bool.eq_iff_iff]
    simp only [refMay, mayMsg, tailM, plainM, fieldsL, runF, fMay, wout, MsgD.mk.injEq, Bool.and_eq_true, decide_eq_true_eq, if_true, if_false, List.isEmpty_cons, Bool.not_false, true_and, Int.reduceEq, Int.reduceLE, and_self]
    constructor
    · intro h
      simp_all
    · intro h
      simp_all
  by_cases h4 : k = 4
  case pos =>
    subst h4
    rw [Bool.eq_iff_iff]
    simp only [refMay, mayMsg, tailM, plainM, fieldsL, runF, fMay, wout, MsgD.mk.injEq, Bool.and_eq_true, decide_eq_true_eq, if_true, if_false, List.isEmpty_cons, Bool.not_false, true_and, and_true, Int.reduceEq, Int.reduceLE, and_self]
    constructor
    · intro h
      simp_all
    · intro h
      simp_all [cnt0]
  by_cases h5 : k = 5
  case pos =>
    subst h5
    rw [Bool.eq_iff_iff]
    simp only [refMay, mayMsg, tailM, plainM, fieldsL, runF, fMay, wout, MsgD.mk.injEq, Bool.and_eq_true, decide_eq_true_eq, if_true, if_false, List.isEmpty_cons, Bool.not_false, true_and, and_true, Int.reduceEq, Int.reduceLE, and_self]
    constructor
    · intro h
      simp_all
    · intro h
      simp_all [cnt0]
  by_cases h6 : k = 6
  case pos =>
    subst h6
    rw [Bool.eq_iff_iff]
    simp only [refMay, mayMsg, tailM, plainM, fieldsL, runF, fMay, wout, MsgD.mk.injEq, Bool.and_eq_true, decide_eq_true_eq, if_true, if_false, List.isEmpty_cons, Bool.not_false, true_and, Int.reduceEq, Int.reduceLE, and_self]
    constructor
    · intro h
      simp_all
    · intro h
      simp_all [cnt0]
  case neg =>
    have e1 : refMay ⟨k, f, t, a, b, c, d, y, l, e, p⟩ = false := by
      unfold refMay
      have : decide (1 ≤ k ∧ k ≤ 6) = false := decide_eq_false (by omega)
      simp only [this, Bool.false_and]
    have e2 : fieldsL k = [] := by simp only [fieldsL, h1, h2, h3, h4, h5, h6, if_false]
    rw [e1]
    simp only [mayMsg, e2, List.isEmpty_nil, Bool.not_true, Bool.false_and]


end Go.Proofs.YtggllgimlfchhabGreat

/- No bytes are bytes. -/
namespace Go.Proofs.YtggllgimlfchhabGreat
open Go.RowKit
set_option maxRecDepth 100000

theorem byt_nil : Byt [] := fun b hb => by cases hb
end Go.Proofs.YtggllgimlfchhabGreat

/- Record: a message that was read is seen. -/
namespace Go.Proofs.YtggllgimlfchhabGreat
open Go.RowKit
set_option maxRecDepth 100000

theorem tmCells_len (p : TM2) : (tmCells p).length = 5 := rfl
theorem tmCells_at : ∀ (vs : List TM2) t p, vs[t]? = some p → ∀ k, k < 5 → (vs.flatMap tmCells)[t * 5 + k]? = (tmCells p)[k]?
  | [], t, p, h => by simp at h
  | q :: vs, 0, p, h => fun k hk => by
    simp only [List.getElem?_cons_zero, Option.some.injEq] at h
    subst h
    rw [List.flatMap_cons, Nat.zero_mul, Nat.zero_add, List.getElem?_append_left (by rw [tmCells_len]; exact hk)]
  | q :: vs, t + 1, p, h => fun k hk => by
    rw [List.getElem?_cons_succ] at h
    rw [List.flatMap_cons, List.getElem?_append_right (by rw [tmCells_len]; omega), tmCells_len, show (t + 1) * 5 + k - 5 = t * 5 + k by omega]
    exact tmCells_at vs t p h k hk
def ReadE (e : EntD) : Prop := e.txns.length ≤ 4096 ∧ ∀ t ∈ e.txns, ReadT t
theorem OwnTms.sees {base : Nat} {w : World} {x : Value} {l : List TmD} (h : OwnTms base w x l) (hl : l.length ≤ 4096) (hr : ∀ t ∈ l, ReadE t.ent) : SeesTms w x l := by
  obtain ⟨vs, rfl, hrow, hall⟩ := h
  rcases hrow.2 with ⟨rfl, h0⟩ | ⟨g, cap, cur, rfl, hg, hh, hcap, _⟩
  · exact ⟨none, 0, 0, 0, by rw [h0], by omega, by omega, fun h => absurd h (by omega), fun t ht => absurd ht (by omega)⟩
  · have hat : ∀ t u, (vs.flatMap tmCells)[t]? = some u → w.cell? ⟨g, 0 + t, none⟩ = some u := by
      intro t u hu
      have := hrow.cells (g := g) rfl t u hu
      rwa [Addr.add_mid] at this
    refine ⟨some ⟨g, 0, none⟩, cap, g, 0, rfl, hcap, by omega, fun _ => rfl, fun t ht => ?_⟩
    have htv : t < vs.length := by simpa using ht
    have hp : vs[t]? = some vs[t] := List.getElem?_eq_getElem htv
    have e : (vs.map (·.1)).getD t dM = vs[t].1 := by simp [List.getD, htv]
    rw [e]
    have hc : ∀ k u, k < 5 → (tmCells vs[t])[k]? = some u → w.cell? ⟨g, 0 + t * 5 + k, none⟩ = some u := fun k u hk hu => by
      have := hat (t * 5 + k) u ((tmCells_at vs t _ hp k hk).trans hu)
      rwa [← Nat.add_assoc] at this
    have hm := hr _ (List.mem_map.2 ⟨_, List.getElem_mem htv, rfl⟩)
    exact ⟨_, hc 0 _ (by omega) rfl, hc 1 _ (by omega) rfl, hc 2 _ (by omega) rfl, hc 3 _ (by omega) rfl, hc 4 _ (by omega) rfl, (hall _ (List.getElem_mem htv)).sees hm.1 hm.2⟩
structure ReadM (m : MsgD) : Prop where
  list : m.list.length ≤ 4096
  item : ∀ t ∈ m.list, ReadE t.ent
  ent : ReadE m.ent
  data : Byt m.part.data
theorem ReadE.ok {e : EntD} (h : ReadE e) : OkTs e.txns := fun t ht => ⟨(h.2 t ht).code, by have := (h.2 t ht).args; omega⟩
theorem ReadM.ok {m : MsgD} (h : ReadM m) : OkM m := ⟨fun t ht => (h.item t ht).ok, h.ent.ok, h.data⟩
theorem OwnM.sees {base : Nat} {w : World} {cs : Array Value} {m : MsgD} (h : OwnM base w cs m) (hr : ReadM m) : SeesM w cs m := by
  obtain ⟨lv, tv, dv, h0, h1, h2, h3⟩ := h
  exact ⟨lv, tv, dv, h0, h1.sees hr.list hr.item, h2.sees hr.ent.1 hr.ent.2, (sees_of_own h3).2⟩
theorem termed_byt {s : RS} (h : Byt s.zs) : Byt s.termed.2.zs ∧ ReadE s.termed.1.ent := entry_byt (num_byt h)
theorem part_byt {s : RS} (h : Byt s.zs) : Byt s.part.2.zs ∧ Byt s.part.1.data := blob_byt (num_byt (num_byt (num_byt h)))
theorem field_byt {f : Int} {m : MsgD} {s : RS} (hm : ReadM m) (h : Byt s.zs) : ReadM (RS.field f m s).1 ∧ Byt (RS.field f m s).2.zs := by
  unfold RS.field
  split
  · exact ⟨⟨hm.list, hm.item, hm.ent, hm.data⟩, num_byt h⟩
  split
  · exact ⟨⟨hm.list, hm.item, hm.ent, hm.data⟩, num_byt h⟩
  split
  · exact ⟨⟨hm.list, hm.item, hm.ent, hm.data⟩, num_byt h⟩
  split
  · exact ⟨⟨hm.list, hm.item, hm.ent, hm.data⟩, num_byt h⟩
  split
  · exact ⟨⟨hm.list, hm.item, hm.ent, hm.data⟩, must_byt (num_byt h)⟩
  split
  · have := list_byt (take := RS.termed) (P := fun t => ReadE t.ent) (fun _ hs => termed_byt hs) h
    exact ⟨⟨list_len _ _, this.2, hm.ent, hm.data⟩, this.1⟩
  split
  · have := entry_byt h
    exact ⟨⟨hm.list, hm.item, this.2, hm.data⟩, this.1⟩
  · have := part_byt h
    exact ⟨⟨hm.list, hm.item, hm.ent, this.2⟩, this.1⟩
theorem fields_byt : ∀ (F : List Int) {m : MsgD} {s : RS}, ReadM m → Byt s.zs → ReadM (RS.fields F m s).1 ∧ Byt (RS.fields F m s).2.zs
  | [], _, _, hm, h => ⟨hm, h⟩
  | f :: F, m, s, hm, h => by
    have := field_byt (f := f) hm h
    exact fields_byt F this.1 this.2
theorem msg_byt {s : RS} (h : Byt s.zs) : ReadM s.msg.1 ∧ Byt s.msg.2.zs := by
  unfold RS.msg
  exact fields_byt _ ⟨by simp, (fun t ht => by cases ht), ⟨by simp, (fun t ht => by cases ht)⟩, byt_nil⟩ (num_byt (num_byt (kind_byt h)))
theorem tu_small (l : List Int) : (tu l).1.length ≤ 1048576 := by
  unfold tu
  split
  · simp
  split
  · simp
  split
  · simp
  split
  · simp
  split
  · simp
  · simp only [List.length_take]
    omega
theorem tu_byt {l : List Int} (h : Byt l) : Byt (tu l).1 := by
  unfold tu
  split
  · exact byt_nil
  split
  · exact byt_nil
  split
  · exact byt_nil
  split
  · exact byt_nil
  split
  · exact byt_nil
  · exact fun b hb => h b (List.mem_of_mem_drop (List.mem_of_mem_take hb))
end Go.Proofs.YtggllgimlfchhabGreat
