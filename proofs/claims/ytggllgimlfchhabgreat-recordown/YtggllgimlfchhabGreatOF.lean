/- RecordOwn: what its walk wants. -/
import Derived.Test.YtggllgimlfchhabGreatOE
import Derived.Test.YtggllgimlfchhabGreatNK
import Derived.Test.YtggllgimlfchhabGreatKL
namespace Go.Proofs.YtggllgimlfchhabGreat
open Go.RowKit
set_option maxRecDepth 100000

theorem SmT.of {t : TxnD} (h : SmallT t) : SmT t := ⟨h.1, h.2.1, h.2.2.1, h.2.2.2⟩
/-- A termed entry's cells, of the kinds that they have. -/
def SoftM (P : Nat → Prop) (w : World) (g o : Nat) : Prop :=
  ∃ ta tl tc, (∃ x, w.cell? ⟨g, o, none⟩ = some (.int .i64 x)) ∧ (∃ x, w.cell? ⟨g, o + 1, none⟩ = some (.int .i64 x)) ∧ (∃ x, w.cell? ⟨g, o + 2, none⟩ = some (.int .i64 x)) ∧ (∃ x, w.cell? ⟨g, o + 3, none⟩ = some (.int .i64 x)) ∧ w.cell? ⟨g, o + 4, none⟩ = some (.slice ta tl tc) ∧ SoftTs P w (.slice ta tl tc) tl
theorem SoftM.on {P Q : Nat → Prop} {w w' : World} {g o : Nat} {cur : Array Value} {T : TypeId} (hg : w.heap[g]? = some (.cells cur T)) (h : SoftM P w g o) (m : Mild Q w w') : SoftM P w' g o := by
  obtain ⟨ta, tl, tc, h0, h1, h2, h3, h4, hs⟩ := h
  exact ⟨ta, tl, tc, m.int hg h0, m.int hg h1, m.int hg h2, m.int hg h3, m.slice hg h4, hs.on m⟩
def SoftMs (P : Nat → Prop) (w : World) (v : Value) (n : Nat) : Prop :=
  ∃ ao cap, v = .slice ao n cap ∧ n ≤ cap ∧ n ≤ 9223372036854775807 ∧ (0 < n → ∃ (g : Nat) (cur : Array Value) (T : TypeId), ao = some ⟨g, 0, none⟩ ∧ P g ∧ w.heap[g]? = some (.cells cur T) ∧ ∀ t, t < n → SoftM P w g (t * 5))
theorem SoftMs.on {P Q : Nat → Prop} {w w' : World} {n : Nat} {v : Value} (h : SoftMs P w v n) (m : Mild Q w w') : SoftMs P w' v n := by
  obtain ⟨ao, cap, rfl, h1, h2, h3⟩ := h
  refine ⟨ao, cap, rfl, h1, h2, fun hn => ?_⟩
  obtain ⟨g, cur, T, e, hP, hg, hc⟩ := h3 hn
  obtain ⟨cur', e', _⟩ := m.alike g cur T hg
  exact ⟨g, cur', T, e, hP, e', fun t ht => (hc t ht).on hg m⟩
theorem SoftMs.of {w : World} {base : Nat} {v : Value} {l : List TmD} (h : OwnTms base w v l) (hn : l.length ≤ 2513169434843) (hs : ∀ t ∈ l, SmallTm t) : SoftMs (base ≤ ·) w v l.length := by
  obtain ⟨vs, rfl, hrow, hall⟩ := h
  rcases id hrow.2 with ⟨rfl, h0⟩ | ⟨g, cap, cur, rfl, hg, hh, hc, _⟩
  · exact ⟨none, 0, by rw [h0], by omega, by omega, fun h0' => absurd h0' (by omega)⟩
  · refine ⟨_, cap, rfl, hc, by omega, fun _ => ⟨g, cur, _, rfl, hg, hh, fun t ht => ?_⟩⟩
    have htv : t < vs.length := by simpa using ht
    have hp : vs[t]? = some vs[t] := List.getElem?_eq_getElem htv
    have hat : ∀ k u, k < 5 → (tmCells vs[t])[k]? = some u → w.cell? ⟨g, t * 5 + k, none⟩ = some u := fun k u hk hu => by
      have := hrow.cells (g := g) rfl (t * 5 + k) u ((tmCells_at vs t _ hp k hk).trans hu)
      rwa [Addr.add_mid, Nat.zero_add] at this
    have hq := hall _ (List.getElem_mem htv)
    have hs := hs _ (List.mem_map.2 ⟨_, List.getElem_mem htv, rfl⟩)
    have h4 := hat 4 _ (by omega) rfl
    obtain ⟨ta, tc, e⟩ := hq.shape
    have hsf := SoftTs.of hq hs.1 (fun x hx => SmT.of (hs.2 x hx))
    rw [e] at h4 hsf
    exact ⟨ta, _, tc, ⟨_, hat 0 _ (by omega) rfl⟩, ⟨_, hat 1 _ (by omega) rfl⟩, ⟨_, hat 2 _ (by omega) rfl⟩, ⟨_, hat 3 _ (by omega) rfl⟩, h4, hsf⟩
/-- What RecordOwn asks of a message's size. -/
structure SmallM (m : MsgD) : Prop where
  list : m.list.length ≤ 2513169434843
  item : ∀ t ∈ m.list, SmallTm t
  ent : m.ent.txns.length ≤ 1256584717421 ∧ ∀ x ∈ m.ent.txns, SmallT x
  data : m.part.data.length ≤ 140737488351232
theorem SmallM.sm {m : MsgD} (h : SmallM m) : SmM m := ⟨h.list, fun t ht => ⟨(h.item t ht).1, fun x hx => SmT.of ((h.item t ht).2 x hx)⟩, ⟨h.ent.1, fun x hx => SmT.of (h.ent.2 x hx)⟩, h.data⟩
theorem OwnM.seesN {base : Nat} {w : World} {cs : Array Value} {m : MsgD} (h : OwnM base w cs m) (hr : SmallM m) : SeesM w cs m := by
  obtain ⟨lv, tv, dv, h0, h1, h2, h3⟩ := h
  exact ⟨lv, tv, dv, h0, h1.seesN hr.list hr.item, h2.seesN hr.ent.1 hr.ent.2, (sees_of_own h3).2⟩
end Go.Proofs.YtggllgimlfchhabGreat
