/- Several texts as one. -/
import Derived.Test.YtggllgimlfchhaaGreatED
import Derived.Test.YtggllgimlfchhaaGreatCH
import Derived.Test.YtggllgimlfchhaaGreatBY
import Derived.Test.YtggllgimlfchhaaGreatKW
import Derived.Test.YtggllgimlfchhaaGreatWI

/- Record: a message that was read is seen. -/
namespace Go.Proofs.YtggllgimlfchhaaGreat
open Go.RowKit
set_option maxRecDepth 100000

theorem tmCells_len (p : TM2) : (tmCells p).length = 5 := rfl
theorem tmCells_at : ∀ (vs : List TM2) t p, vs[t]? = some p → ∀ k, k < 5 → (vs.flatMap tmCells)[t * 5 + k]? = (tmCells p)[k]?
  | [], t, p, h => by simp at h
  | q :: vs, 0, p, h => fun k hk => by
    simp only [List.getElem?_cons_zero, Option.some.injEq] at h
    subst h
    rw [List.flatMap_cons, Nat.zero_mul, Nat.zero_add, List.getElem?_append_left (by rw [tmCells_len]; exact hk)]
  | q :: vs, t + 1, p, h => fun k hk => by
    rw [List.getElem?_cons_succ] at h
    rw [List.flatMap_cons, List.getElem?_append_right (by rw [tmCells_len]; omega), tmCells_len, show (t + 1) * 5 + k - 5 = t * 5 + k by omega]
    exact tmCells_at vs t p h k hk
def ReadE (e : EntD) : Prop := e.txns.length ≤ 4096 ∧ ∀ t ∈ e.txns, ReadT t
theorem OwnTms.sees {base : Nat} {w : World} {x : Value} {l : List TmD} (h : OwnTms base w x l) (hl : l.length ≤ 4096) (hr : ∀ t ∈ l, ReadE t.ent) : SeesTms w x l := by
  obtain ⟨vs, rfl, hrow, hall⟩ := h
  rcases hrow.2 with ⟨rfl, h0⟩ | ⟨g, cap, cur, rfl, hg, hh, hcap, _⟩
  · exact ⟨none, 0, 0, 0, by rw [h0], by omega, by omega, fun h => absurd h (by omega), fun t ht => absurd ht (by omega)⟩
  · have hat : ∀ t u, (vs.flatMap tmCells)[t]? = some u → w.cell? ⟨g, 0 + t, none⟩ = some u := by
      intro t u hu
      have := hrow.cells (g := g) rfl t u hu
      rwa [Addr.add_mid] at this
    refine ⟨some ⟨g, 0, none⟩, cap, g, 0, rfl, hcap, by omega, fun _ => rfl, fun t ht => ?_⟩
    have htv : t < vs.length := by simpa using ht
    have hp : vs[t]? = some vs[t] := List.getElem?_eq_getElem htv
    have e : (vs.map (·.1)).getD t dM = vs[t].1 := by simp [List.getD, htv]
    rw [e]
    have hc : ∀ k u, k < 5 → (tmCells vs[t])[k]? = some u → w.cell? ⟨g, 0 + t * 5 + k, none⟩ = some u := fun k u hk hu => by
      have := hat (t * 5 + k) u ((tmCells_at vs t _ hp k hk).trans hu)
      rwa [← Nat.add_assoc] at this
    have hm := hr _ (List.mem_map.2 ⟨_, List.getElem_mem htv, rfl⟩)
    exact ⟨_, hc 0 _ (by omega) rfl, hc 1 _ (by omega) rfl, hc 2 _ (by omega) rfl, hc 3 _ (by omega) rfl, hc 4 _ (by omega) rfl, (hall _ (List.getElem_mem htv)).sees hm.1 hm.2⟩
structure ReadM (m : MsgD) : Prop where
  list : m.list.length ≤ 4096
  item : ∀ t ∈ m.list, ReadE t.ent
  ent : ReadE m.ent
  data : Byt m.part.data
theorem ReadE.ok {e : EntD} (h : ReadE e) : OkTs e.txns := fun t ht => ⟨(h.2 t ht).code, by have := (h.2 t ht).args; omega⟩
theorem ReadM.ok {m : MsgD} (h : ReadM m) : OkM m := ⟨fun t ht => (h.item t ht).ok, h.ent.ok, h.data⟩
theorem OwnM.sees {base : Nat} {w : World} {cs : Array Value} {m : MsgD} (h : OwnM base w cs m) (hr : ReadM m) : SeesM w cs m := by
  obtain ⟨lv, tv, dv, h0, h1, h2, h3⟩ := h
  exact ⟨lv, tv, dv, h0, h1.sees hr.list hr.item, h2.sees hr.ent.1 hr.ent.2, (sees_of_own h3).2⟩
theorem termed_byt {s : RS} (h : Byt s.zs) : Byt s.termed.2.zs ∧ ReadE s.termed.1.ent := entry_byt (num_byt h)
theorem part_byt {s : RS} (h : Byt s.zs) : Byt s.part.2.zs ∧ Byt s.part.1.data := blob_byt (num_byt (num_byt (num_byt h)))
theorem field_byt {f : Int} {m : MsgD} {s : RS} (hm : ReadM m) (h : Byt s.zs) : ReadM (RS.field f m s).1 ∧ Byt (RS.field f m s).2.zs := by
  unfold RS.field
  split
  · exact ⟨⟨hm.list, hm.item, hm.ent, hm.data⟩, num_byt h⟩
  split
  · exact ⟨⟨hm.list, hm.item, hm.ent, hm.data⟩, num_byt h⟩
  split
  · exact ⟨⟨hm.list, hm.item, hm.ent, hm.data⟩, num_byt h⟩
  split
  · exact ⟨⟨hm.list, hm.item, hm.ent, hm.data⟩, num_byt h⟩
  split
  · exact ⟨⟨hm.list, hm.item, hm.ent, hm.data⟩, must_byt (num_byt h)⟩
  split
  · have := list_byt (take := RS.termed) (P := fun t => ReadE t.ent) (fun _ hs => termed_byt hs) h
    exact ⟨⟨list_len _ _, this.2, hm.ent, hm.data⟩, this.1⟩
  split
  · have := entry_byt h
    exact ⟨⟨hm.list, hm.item, this.2, hm.data⟩, this.1⟩
  · have := part_byt h
    exact ⟨⟨hm.list, hm.item, hm.ent, this.2⟩, this.1⟩
theorem fields_byt : ∀ (F : List Int) {m : MsgD} {s : RS}, ReadM m → Byt s.zs → ReadM (RS.fields F m s).1 ∧ Byt (RS.fields F m s).2.zs
  | [], _, _, hm, h => ⟨hm, h⟩
  | f :: F, m, s, hm, h => by
    have := field_byt (f := f) hm h
    exact fields_byt F this.1 this.2
theorem msg_byt {s : RS} (h : Byt s.zs) : ReadM s.msg.1 ∧ Byt s.msg.2.zs := by
  unfold RS.msg
  exact fields_byt _ ⟨by simp, (fun t ht => by cases ht), ⟨by simp, (fun t ht => by cases ht)⟩, byt_nil⟩ (num_byt (num_byt (kind_byt h)))
theorem tu_small (l : List Int) : (tu l).1.length ≤ 1048576 := by
  unfold tu
  split
  · simp
  split
  · simp
  split
  · simp
  split
  · simp
  split
  · simp
  · simp only [List.length_take]
    omega
theorem tu_byt {l : List Int} (h : Byt l) : Byt (tu l).1 := by
  unfold tu
  split
  · exact byt_nil
  split
  · exact byt_nil
  split
  · exact byt_nil
  split
  · exact byt_nil
  split
  · exact byt_nil
  · exact fun b hb => h b (List.mem_of_mem_drop (List.mem_of_mem_take hb))
end Go.Proofs.YtggllgimlfchhaaGreat

/- Record: Unmarshal. -/
namespace Go.Proofs.YtggllgimlfchhaaGreat
open Go.RowKit
set_option maxRecDepth 100000

theorem own_setRow {w : World} {base e size M : Nat} {v : Value} {n : Nat} {xs : List Value} {old : Array Value} (h : w.ownsRow base e size v n xs) (hM : w.heap[M]? = some (.cells old 34)) (he : e ≠ 34) (cs : Array Value) : (w.setRow M cs).ownsRow base e size v n xs := by
  refine ⟨h.1, ?_⟩
  rcases h.2 with hn | ⟨g, cap, cur, hv, hg, hh, r⟩
  · exact .inl hn
  · refine .inr ⟨g, cap, cur, hv, hg, (setRow_other _ _ _ _ (fun e => ?_)).trans hh, r⟩
    subst e
    rw [hM] at hh
    simp only [Option.some.injEq, Obj.cells.injEq] at hh
    exact he hh.2.1.symm
theorem ownM_setRow {w : World} {base M : Nat} {cs' : Array Value} {m : MsgD} {old : Array Value} (h : OwnM base w cs' m) (hM : w.heap[M]? = some (.cells old 34)) (cs : Array Value) : OwnM base (w.setRow M cs) cs' m := by
  obtain ⟨lv, tv, dv, h0, ⟨vs, a1, a2, a3⟩, ⟨us, b1, b2, b3⟩, h3⟩ := h
  have hT : ∀ {x : Value} {l : List TxnD}, OwnTs base w x l → OwnTs base (w.setRow M cs) x l := fun {x l} ⟨us, b1, b2, b3⟩ => ⟨us, b1, own_setRow b2 hM (by decide) cs, fun p hp => by
    obtain ⟨cv, av, rv, wv, q0, q1, q2, q3, q4⟩ := b3 p hp
    exact ⟨cv, av, rv, wv, q0, own_setRow q1 hM (by decide) cs, own_setRow q2 hM (by decide) cs, own_setRow q3 hM (by decide) cs, own_setRow q4 hM (by decide) cs⟩⟩
  exact ⟨lv, tv, dv, h0, ⟨vs, a1, own_setRow a2 hM (by decide) cs, fun p hp => hT (a3 p hp)⟩, hT ⟨us, b1, b2, b3⟩, own_setRow h3 hM (by decide) cs⟩
def dG : MsgD := ⟨0, 0, 0, 0, 0, 0, 0, false, [], ⟨0, 0, 0, []⟩, ⟨0, 0, 0, []⟩⟩
/-- What a reader's end makes of a message. -/
def finM (p : MsgD × RS) : MsgD × Int := if p.2.fin.fault (mayMsg p.1) = 0 then (p.1, 0) else (dG, p.2.fin.fault (mayMsg p.1))
/-- What bytes say as a message. -/
def unm (zs : List Int) : MsgD × Int := if (tu zs).2.2 ≠ 0 then (dG, (tu zs).2.2) else if (tu zs).2.1 < zs.length then (dG, 13) else finM (RS.mk (tu zs).1 0 false).msg
theorem ownM_zero (base : Nat) (w : World) : OwnM base w #[.int .i64 0, .int .i64 0, .int .i64 0, .int .i64 0, .int .i64 0, .int .i64 0, .int .i64 0, .bool false, .slice none 0 0, .int .i64 0, .int .i64 0, .int .i64 0, .slice none 0 0, .int .i64 0, .int .i64 0, .int .i64 0, .slice none 0 0] dG := ⟨_, _, _, rfl, OwnTms.nil _ _, OwnTs.nil _ _, World.ownsRow_nil _ _ _ _⟩

set_option maxHeartbeats 1600000 in
theorem Unmarshal_any (bv : Value) (zs : List Int) (w : World) (hs : Sees w .u8 bv zs) (hby : Byt zs) (hm : zs.length ≤ 140737488355328) :
    Calls Tryz.prog 22 #[bv] w fun e w' => ∃ cs, e = .returned (.tuple #[.agg cs, .int .i64 (unm zs).2]) ∧ OwnM w.heap.size w' cs (unm zs).1 ∧ Below w.heap.size w w' := by
  have hsm := tu_small zs
  have hbt := tu_byt hby
  obtain ⟨d, sz, er, htu⟩ : ∃ d sz er, tu zs = (d, sz, er) := ⟨_, _, _, rfl⟩
  obtain ⟨U, hU⟩ : ∃ u, unm zs = u := ⟨_, rfl⟩
  have hUN : U = if er ≠ 0 then (dG, er) else if sz < zs.length then (dG, 13) else finM (RS.mk d 0 false).msg := by rw [← hU]; simp only [unm, htu]
  have hal : Below w.heap.size w (w.alloc (.cells #[.int .i64 0, .int .i64 0, .int .i64 0, .int .i64 0, .int .i64 0, .int .i64 0, .int .i64 0, .bool false, .slice none 0 0, .int .i64 0, .int .i64 0, .int .i64 0, .slice none 0 0, .int .i64 0, .int .i64 0, .int .i64 0, .slice none 0 0] 34)) := (Below.refl _ _).alloc (Nat.le_refl _) _
  have hz0 : (w.alloc (.cells #[.int .i64 0, .int .i64 0, .int .i64 0, .int .i64 0, .int .i64 0, .int .i64 0, .int .i64 0, .bool false, .slice none 0 0, .int .i64 0, .int .i64 0, .int .i64 0, .slice none 0 0, .int .i64 0, .int .i64 0, .int .i64 0, .slice none 0 0] 34)).heap[w.heap.size]? = some (.cells #[.int .i64 0, .int .i64 0, .int .i64 0, .int .i64 0, .int .i64 0, .int .i64 0, .int .i64 0, .bool false, .slice none 0 0, .int .i64 0, .int .i64 0, .int .i64 0, .slice none 0 0, .int .i64 0, .int .i64 0, .int .i64 0, .slice none 0 0] 34) := heap_alloc_new w _
  have hs0 : (w.alloc (.cells #[.int .i64 0, .int .i64 0, .int .i64 0, .int .i64 0, .int .i64 0, .int .i64 0, .int .i64 0, .bool false, .slice none 0 0, .int .i64 0, .int .i64 0, .int .i64 0, .slice none 0 0, .int .i64 0, .int .i64 0, .int .i64 0, .slice none 0 0] 34)).heap.size = w.heap.size + 1 := by simp
  have HC0 := hide (unseal_any _ zs _ (hs.below hal) hby hm)
  rw [htu] at HC0 hsm hbt
  simp only at HC0 hsm hbt
  rw [hU]
  obtain ⟨ao, cap, rfl, _⟩ := hs
  obtain ⟨len, hlen⟩ : ∃ n, zs.length = n := ⟨_, rfl⟩
  rw [hlen] at HC0 hUN hm
  rw [hlen]
  obtain ⟨w1, hw1⟩ : ∃ y, w.alloc (.cells #[.int .i64 0, .int .i64 0, .int .i64 0, .int .i64 0, .int .i64 0, .int .i64 0, .int .i64 0, .bool false, .slice none 0 0, .int .i64 0, .int .i64 0, .int .i64 0, .slice none 0 0, .int .i64 0, .int .i64 0, .int .i64 0, .slice none 0 0] 34) = y := ⟨_, rfl⟩
  rw [hw1] at hal hz0 hs0 HC0
  have HAL := hide hal
  have HZ0 := hide hz0
  have HS0 := hide hs0
  have HSM := hide hsm
  have HBT := hide hbt
  have HUN := hide hUN
  clear hal hz0 hs0 hsm hbt hUN htu hU hlen hby
  go_enter Tryz.func22, Tryz.ntmps22
  go_wp2_with (rw [hw1])
  refine (unhide HC0).mono ?_
  rintro e w2 ⟨x, rfl, ox, hb2⟩
  have hB2 : Below w.heap.size w w2 := (unhide HAL).trans (hb2.mono (unhide HAL).size)
  have hz2 : w2.heap[w.heap.size]? = some (.cells #[.int .i64 0, .int .i64 0, .int .i64 0, .int .i64 0, .int .i64 0, .int .i64 0, .int .i64 0, .bool false, .slice none 0 0, .int .i64 0, .int .i64 0, .int .i64 0, .slice none 0 0, .int .i64 0, .int .i64 0, .int .i64 0, .slice none 0 0] 34) := (hb2.block _ (by have := unhide HS0; omega)).trans (unhide HZ0)
  obtain ⟨xa, xc, rfl⟩ := own_shape ox
  have HB2 := hide hB2
  have HZ2 := hide hz2
  have HOX := hide ox
  clear hb2 hB2 ox HC0 hz2
  by_cases he : er = 0
  case neg =>
    have heb : (er != 0) = true := by simpa using he
    have hU : U = (dG, er) := (unhide HUN).trans (if_pos he)
    have HU := hide hU
    clear hU HUN
    obtain ⟨dl, hdl⟩ : ∃ n, d.length = n := ⟨_, rfl⟩
    rw [hdl]
    clear hdl HOX
    go_wp2_with (refine wpList_store_row rfl 34 _ _ rfl w.heap.size _ _ rfl rfl 34 (unhide HZ2) (by kernel_rfl) rfl (by first | kernel_rfl | simp [Value.oneCell']) ?_)
    refine bodyPost_ret (results_cell_row_tmp rfl _ _ w.heap.size 34 #[.int .i64 0, .int .i64 0, .int .i64 0, .int .i64 0, .int .i64 0, .int .i64 0, .int .i64 0, .bool false, .slice none 0 0, .int .i64 0, .int .i64 0, .int .i64 0, .slice none 0 0, .int .i64 0, .int .i64 0, .int .i64 0, .slice none 0 0] (0, 0) _ rfl (setRow_heap _ _ _ _ _ _ (unhide HZ2)) Tryz.underlying34 rfl (by kernel_rfl)) rfl ?_
    rw [unhide HU]
    exact ⟨_, rfl, ownM_zero _ _, below_setRow (unhide HB2) (Nat.le_refl _)⟩
  subst he
  by_cases hsz : (sz : Int) < (len : Int)
  · have hU : U = (dG, 13) := (unhide HUN).trans ((if_neg (by simp)).trans (if_pos (by omega)))
    have HU := hide hU
    clear hU HUN
    obtain ⟨dl, hdl⟩ : ∃ n, d.length = n := ⟨_, rfl⟩
    rw [hdl]
    clear hdl HOX
    go_wp2_with (refine wpList_store_row rfl 34 _ _ rfl w.heap.size _ _ rfl rfl 34 (unhide HZ2) (by kernel_rfl) rfl (by first | kernel_rfl | simp [Value.oneCell']) ?_)
    refine bodyPost_ret (results_cell_row_tmp rfl _ _ w.heap.size 34 #[.int .i64 0, .int .i64 0, .int .i64 0, .int .i64 0, .int .i64 0, .int .i64 0, .int .i64 0, .bool false, .slice none 0 0, .int .i64 0, .int .i64 0, .int .i64 0, .slice none 0 0, .int .i64 0, .int .i64 0, .int .i64 0, .slice none 0 0] (0, 0) _ rfl (setRow_heap _ _ _ _ _ _ (unhide HZ2)) Tryz.underlying34 rfl (by kernel_rfl)) rfl ?_
    rw [unhide HU]
    exact ⟨_, rfl, ownM_zero _ _, below_setRow (unhide HB2) (Nat.le_refl _)⟩
  have hU : U = finM (RS.mk d 0 false).msg := (unhide HUN).trans ((if_neg (by simp)).trans (if_neg (by omega)))
  have hrm := msg_byt (s := RS.mk d 0 false) (unhide HBT)
  have hx := (sees_of_own (unhide HOX)).2
  have hal3 : Below w2.heap.size w2 (w2.alloc (.cells #[.slice xa d.length xc, .int .i64 0, .bool false] 77)) := (Below.refl _ _).alloc (Nat.le_refl _) _
  have hR3 : (w2.alloc (.cells #[.slice xa d.length xc, .int .i64 0, .bool false] 77)).heap[w2.heap.size]? = some (.cells #[.slice xa d.length xc, .int .i64 0, .bool false] 77) := heap_alloc_new w2 _
  have hRd : RdS (w2.alloc (.cells #[.slice xa d.length xc, .int .i64 0, .bool false] 77)) w2.heap.size w2.heap.size ⟨d, 0, false⟩ :=
    ⟨⟨_, cell_of_heap hR3, hx.upto.below hal3 (Nat.le_refl _)⟩, cell_of_heap hR3, cell_of_heap hR3, fun o => frozen_of_heap hR3, Nat.le_refl _, unhide HBT, by have := unhide HSM; show d.length ≤ _; omega⟩
  have hs2 : w.heap.size < w2.heap.size := (Array.getElem?_eq_some_iff.1 (unhide HZ2)).1
  have hz3 : (w2.alloc (.cells #[.slice xa d.length xc, .int .i64 0, .bool false] 77)).heap[w.heap.size]? = some (.cells #[.int .i64 0, .int .i64 0, .int .i64 0, .int .i64 0, .int .i64 0, .int .i64 0, .int .i64 0, .bool false, .slice none 0 0, .int .i64 0, .int .i64 0, .int .i64 0, .slice none 0 0, .int .i64 0, .int .i64 0, .int .i64 0, .slice none 0 0] 34) := (hal3.block _ hs2).trans (unhide HZ2)
  have hs3 : (w2.alloc (.cells #[.slice xa d.length xc, .int .i64 0, .bool false] 77)).heap.size = w2.heap.size + 1 := by simp
  have hC := message_r hRd
  obtain ⟨mg, s1, hms⟩ : ∃ m s', (RS.mk d 0 false).msg = (m, s') := ⟨_, _, rfl⟩
  rw [hms] at hC hrm hU
  simp only at hC hrm
  obtain ⟨F, hF⟩ : ∃ F, s1.fin.fault (mayMsg mg) = F := ⟨_, rfl⟩
  have hU2 : U = if F = 0 then (mg, 0) else (dG, F) := by rw [hU, ← hF]; rfl
  obtain ⟨w3, hw3⟩ : ∃ y, w2.alloc (.cells #[.slice xa d.length xc, .int .i64 0, .bool false] 77) = y := ⟨_, rfl⟩
  rw [hw3] at hal3 hRd hz3 hs3 hC
  have hB3 : Below w.heap.size w w3 := (unhide HB2).trans (hal3.mono (unhide HB2).size)
  obtain ⟨R, hR⟩ : ∃ n, w2.heap.size = n := ⟨_, rfl⟩
  rw [hR] at hC hs2 hs3
  obtain ⟨dn, hdl⟩ : ∃ n, d.length = n := ⟨_, rfl⟩
  rw [hdl] at hw3
  rw [hdl]
  have HC3 := hide hC
  have HRM := hide hrm.1
  have HF := hide hF
  have HU := hide hU2
  have HZ3 := hide hz3
  have HB3 := hide hB3
  have HS3 := hide hs3
  clear hU hrm hx hal3 hR3 hRd hz3 hs3 hC hms hF hU2 hB3 hdl HOX HUN HBT HSM
  go_wp2_with (first | rw [hw3] | rw [hR])
  refine (unhide HC3).mono ?_
  rintro e y1 ⟨cs, rfl, om, p1, q1⟩
  have hS3 := unhide HS3
  have hz1 : y1.heap[w.heap.size]? = some (.cells #[.int .i64 0, .int .i64 0, .int .i64 0, .int .i64 0, .int .i64 0, .int .i64 0, .int .i64 0, .bool false, .slice none 0 0, .int .i64 0, .int .i64 0, .int .i64 0, .slice none 0 0, .int .i64 0, .int .i64 0, .int .i64 0, .slice none 0 0] 34) := q1.same (unhide HZ3) (by omega)
  have hb1 : Below w.heap.size w y1 := (unhide HB3).trans (q1.below (by omega) (by omega))
  have hsy : R + 1 ≤ y1.heap.size := by have := q1.size; omega
  obtain ⟨lv, tv, dv, rfl, o1, o2, o3⟩ := om
  obtain ⟨la, lc, rfl⟩ := o1.shape
  obtain ⟨ta, tc, rfl⟩ := o2.shape
  obtain ⟨da, dc, rfl⟩ := own_shape o3
  have om2 : OwnM (R + 1) y1 _ mg := OwnM.mono ⟨_, _, _, rfl, o1, o2, o3⟩ (by omega)
  obtain ⟨aK, eK⟩ : ∃ x, mg.kind = x := ⟨_, rfl⟩
  obtain ⟨aF, eF⟩ : ∃ x, mg.frm = x := ⟨_, rfl⟩
  obtain ⟨aO, eO⟩ : ∃ x, mg.to = x := ⟨_, rfl⟩
  obtain ⟨aT, eT⟩ : ∃ x, mg.term = x := ⟨_, rfl⟩
  obtain ⟨aS, eS⟩ : ∃ x, mg.slot = x := ⟨_, rfl⟩
  obtain ⟨aL, eL⟩ : ∃ x, mg.last = x := ⟨_, rfl⟩
  obtain ⟨aC, eC⟩ : ∃ x, mg.commit = x := ⟨_, rfl⟩
  obtain ⟨aY, eY⟩ : ∃ x, mg.yes = x := ⟨_, rfl⟩
  obtain ⟨ll, el⟩ : ∃ x, mg.list.length = x := ⟨_, rfl⟩
  obtain ⟨ek, eek⟩ : ∃ x, mg.ent.kind = x := ⟨_, rfl⟩
  obtain ⟨ef, eef⟩ : ∃ x, mg.ent.frm = x := ⟨_, rfl⟩
  obtain ⟨en, een⟩ : ∃ x, mg.ent.num = x := ⟨_, rfl⟩
  obtain ⟨tl, etl⟩ : ∃ x, mg.ent.txns.length = x := ⟨_, rfl⟩
  obtain ⟨ps, eps⟩ : ∃ x, mg.part.slot = x := ⟨_, rfl⟩
  obtain ⟨pi, epi⟩ : ∃ x, mg.part.idx = x := ⟨_, rfl⟩
  obtain ⟨pm, epm⟩ : ∃ x, mg.part.many = x := ⟨_, rfl⟩
  obtain ⟨dl, edl⟩ : ∃ x, mg.part.data.length = x := ⟨_, rfl⟩
  rw [eK, eF, eO, eT, eS, eL, eC, eY, el, eek, eef, een, etl, eps, epi, epm, edl] at om2
  rw [eK, eF, eO, eT, eS, eL, eC, eY, el, eek, eef, een, etl, eps, epi, epm, edl]
  clear o1 o2 o3 eK eF eO eT eS eL eC eY el eek eef een etl eps epi epm edl
  have hal4 : Below y1.heap.size y1 (y1.alloc (.cells #[.int .i64 0, .int .i64 0, .int .i64 0, .int .i64 0, .int .i64 0, .int .i64 0, .int .i64 0, .bool false, .slice none 0 0, .int .i64 0, .int .i64 0, .int .i64 0, .slice none 0 0, .int .i64 0, .int .i64 0, .int .i64 0, .slice none 0 0] 34)) := (Below.refl _ _).alloc (Nat.le_refl _) _
  have hx4 : (y1.alloc (.cells #[.int .i64 0, .int .i64 0, .int .i64 0, .int .i64 0, .int .i64 0, .int .i64 0, .int .i64 0, .bool false, .slice none 0 0, .int .i64 0, .int .i64 0, .int .i64 0, .slice none 0 0, .int .i64 0, .int .i64 0, .int .i64 0, .slice none 0 0] 34)).heap[y1.heap.size]? = some (.cells #[.int .i64 0, .int .i64 0, .int .i64 0, .int .i64 0, .int .i64 0, .int .i64 0, .int .i64 0, .bool false, .slice none 0 0, .int .i64 0, .int .i64 0, .int .i64 0, .slice none 0 0, .int .i64 0, .int .i64 0, .int .i64 0, .slice none 0 0] 34) := heap_alloc_new y1 _
  have hz4 : (y1.alloc (.cells #[.int .i64 0, .int .i64 0, .int .i64 0, .int .i64 0, .int .i64 0, .int .i64 0, .int .i64 0, .bool false, .slice none 0 0, .int .i64 0, .int .i64 0, .int .i64 0, .slice none 0 0, .int .i64 0, .int .i64 0, .int .i64 0, .slice none 0 0] 34)).heap[w.heap.size]? = some (.cells #[.int .i64 0, .int .i64 0, .int .i64 0, .int .i64 0, .int .i64 0, .int .i64 0, .int .i64 0, .bool false, .slice none 0 0, .int .i64 0, .int .i64 0, .int .i64 0, .slice none 0 0, .int .i64 0, .int .i64 0, .int .i64 0, .slice none 0 0] 34) := (Below.heap_alloc _ _ _ (by omega)).trans hz1
  obtain ⟨ya, hya⟩ : ∃ y, y1.alloc (.cells #[.int .i64 0, .int .i64 0, .int .i64 0, .int .i64 0, .int .i64 0, .int .i64 0, .int .i64 0, .bool false, .slice none 0 0, .int .i64 0, .int .i64 0, .int .i64 0, .slice none 0 0, .int .i64 0, .int .i64 0, .int .i64 0, .slice none 0 0] 34) = y := ⟨_, rfl⟩
  obtain ⟨M, hM⟩ : ∃ n, y1.heap.size = n := ⟨_, rfl⟩
  rw [hya] at hal4 hx4 hz4
  rw [hM] at hx4 hsy
  have pa := p1.below hal4
  have oma : OwnM (R + 1) ya #[.int .i64 aK, .int .i64 aF, .int .i64 aO, .int .i64 aT, .int .i64 aS, .int .i64 aL, .int .i64 aC, .bool aY, .slice la ll lc, .int .i64 ek, .int .i64 ef, .int .i64 en, .slice ta tl tc, .int .i64 ps, .int .i64 pi, .int .i64 pm, .slice da dl dc] mg := om2.same fun k _ hl => hal4.block k hl
  have hba : Below w.heap.size w ya := hb1.trans (hal4.mono hb1.size)
  have hsa : M + 1 ≤ ya.heap.size := by have := (Array.getElem?_eq_some_iff.1 hx4).1; omega
  have hxb := setRow_heap ya M _ #[.int .i64 aK, .int .i64 aF, .int .i64 aO, .int .i64 aT, .int .i64 aS, .int .i64 aL, .int .i64 aC, .bool aY, .slice la ll lc, .int .i64 ek, .int .i64 ef, .int .i64 en, .slice ta tl tc, .int .i64 ps, .int .i64 pi, .int .i64 pm, .slice da dl dc] 34 (0, 0) hx4
  have hzb : (ya.setRow M #[.int .i64 aK, .int .i64 aF, .int .i64 aO, .int .i64 aT, .int .i64 aS, .int .i64 aL, .int .i64 aC, .bool aY, .slice la ll lc, .int .i64 ek, .int .i64 ef, .int .i64 en, .slice ta tl tc, .int .i64 ps, .int .i64 pi, .int .i64 pm, .slice da dl dc]).heap[w.heap.size]? = some (.cells #[.int .i64 0, .int .i64 0, .int .i64 0, .int .i64 0, .int .i64 0, .int .i64 0, .int .i64 0, .bool false, .slice none 0 0, .int .i64 0, .int .i64 0, .int .i64 0, .slice none 0 0, .int .i64 0, .int .i64 0, .int .i64 0, .slice none 0 0] 34) := (setRow_other _ _ _ _ (by omega)).trans hz4
  have pb := pa.otherRow (b := M) (by omega) #[.int .i64 aK, .int .i64 aF, .int .i64 aO, .int .i64 aT, .int .i64 aS, .int .i64 aL, .int .i64 aC, .bool aY, .slice la ll lc, .int .i64 ek, .int .i64 ef, .int .i64 en, .slice ta tl tc, .int .i64 ps, .int .i64 pi, .int .i64 pm, .slice da dl dc]
  have hbb := below_setRow hba (cs := #[.int .i64 aK, .int .i64 aF, .int .i64 aO, .int .i64 aT, .int .i64 aS, .int .i64 aL, .int .i64 aC, .bool aY, .slice la ll lc, .int .i64 ek, .int .i64 ef, .int .i64 en, .slice ta tl tc, .int .i64 ps, .int .i64 pi, .int .i64 pm, .slice da dl dc]) (g := M) (by omega)
  have omb : OwnM (R + 1) (ya.setRow M #[.int .i64 aK, .int .i64 aF, .int .i64 aO, .int .i64 aT, .int .i64 aS, .int .i64 aL, .int .i64 aC, .bool aY, .slice la ll lc, .int .i64 ek, .int .i64 ef, .int .i64 en, .slice ta tl tc, .int .i64 ps, .int .i64 pi, .int .i64 pm, .slice da dl dc]) #[.int .i64 aK, .int .i64 aF, .int .i64 aO, .int .i64 aT, .int .i64 aS, .int .i64 aL, .int .i64 aC, .bool aY, .slice la ll lc, .int .i64 ek, .int .i64 ef, .int .i64 en, .slice ta tl tc, .int .i64 ps, .int .i64 pi, .int .i64 pm, .slice da dl dc] mg := ownM_setRow oma hx4 _
  obtain ⟨yb, hyb⟩ : ∃ y, ya.setRow M #[.int .i64 aK, .int .i64 aF, .int .i64 aO, .int .i64 aT, .int .i64 aS, .int .i64 aL, .int .i64 aC, .bool aY, .slice la ll lc, .int .i64 ek, .int .i64 ef, .int .i64 en, .slice ta tl tc, .int .i64 ps, .int .i64 pi, .int .i64 pm, .slice da dl dc] = y := ⟨_, rfl⟩
  rw [hyb] at hxb hzb pb hbb omb
  have HX4 := hide hx4
  have HXB := hide (And.intro hxb hzb)
  have HBB := hide hbb
  have HOB := hide omb
  have HC4 := hide (end_r pb)
  have hMR : R < M := by omega
  clear hz1 hb1 hsy om2 hal4 hx4 hz4 pa oma hba hsa hxb hzb pb hbb omb p1 q1 HC3
  go_wp2_with (first | rw [hya] | rw [hyb] | rw [hM] | refine wpList_store_row rfl 34 _ _ rfl M _ _ rfl rfl 34 (unhide HX4) (by kernel_rfl) rfl (by first | kernel_rfl | simp [Value.oneCell']) ?_)
  refine (unhide HC4).mono ?_
  rintro e y2 ⟨rfl, p2, q2⟩
  have hx2 := q2.same (unhide HXB).1 (by omega)
  have hz2 := q2.same (unhide HXB).2 (by omega)
  have om2 : OwnM (R + 1) y2 #[.int .i64 aK, .int .i64 aF, .int .i64 aO, .int .i64 aT, .int .i64 aS, .int .i64 aL, .int .i64 aC, .bool aY, .slice la ll lc, .int .i64 ek, .int .i64 ef, .int .i64 en, .slice ta tl tc, .int .i64 ps, .int .i64 pi, .int .i64 pm, .slice da dl dc] mg := (unhide HOB).same (but_same q2 (by omega))
  have hb2 : Below w.heap.size w y2 := (unhide HBB).trans (q2.below (by omega) (by have := (unhide HBB).size; omega))
  have HC5 := hide (messageMayBe_any _ mg y2 (om2.sees (unhide HRM)) (unhide HRM).ok)
  have HX2 := hide (And.intro hx2 hz2)
  have HXM := hide hx2
  have HP2 := hide p2
  have HO2 := hide om2
  have HBw := hide hb2
  clear p2 q2 hx2 hz2 om2 hb2 HC4 HX4
  go_wp2_with (refine wpList_load_wanted (by rfl) 34 _ rfl M rfl 34 _ (0, 0) _ (unhide HXM) Tryz.underlying34 rfl (by kernel_rfl) ?_)
  refine (unhide HC5).mono ?_
  rintro e y3 ⟨rfl, hb3⟩
  have HC6 := hide (fault_r ((unhide HP2).below hb3) (mayMsg mg))
  rw [unhide HF] at HC6
  have hx3 : y3.heap[M]? = some (.cells #[.int .i64 aK, .int .i64 aF, .int .i64 aO, .int .i64 aT, .int .i64 aS, .int .i64 aL, .int .i64 aC, .bool aY, .slice la ll lc, .int .i64 ek, .int .i64 ef, .int .i64 en, .slice ta tl tc, .int .i64 ps, .int .i64 pi, .int .i64 pm, .slice da dl dc] 34) := (hb3.block _ (Array.getElem?_eq_some_iff.1 (unhide HX2).1).1).trans (unhide HX2).1
  have hz3 : y3.heap[w.heap.size]? = some (.cells #[.int .i64 0, .int .i64 0, .int .i64 0, .int .i64 0, .int .i64 0, .int .i64 0, .int .i64 0, .bool false, .slice none 0 0, .int .i64 0, .int .i64 0, .int .i64 0, .slice none 0 0, .int .i64 0, .int .i64 0, .int .i64 0, .slice none 0 0] 34) := (hb3.block _ (Array.getElem?_eq_some_iff.1 (unhide HX2).2).1).trans (unhide HX2).2
  have hb4 : Below w.heap.size w y3 := (unhide HBw).trans (hb3.mono (unhide HBw).size)
  have om3 : OwnM (R + 1) y3 #[.int .i64 aK, .int .i64 aF, .int .i64 aO, .int .i64 aT, .int .i64 aS, .int .i64 aL, .int .i64 aC, .bool aY, .slice la ll lc, .int .i64 ek, .int .i64 ef, .int .i64 en, .slice ta tl tc, .int .i64 ps, .int .i64 pi, .int .i64 pm, .slice da dl dc] mg := (unhide HO2).same fun k _ hl => hb3.block k hl
  have HX3 := hide hx3
  have HZ9 := hide hz3
  have HB9 := hide hb4
  have HO9 : Hid (∀ cs, OwnM w.heap.size (y3.setRow w.heap.size cs) #[.int .i64 aK, .int .i64 aF, .int .i64 aO, .int .i64 aT, .int .i64 aS, .int .i64 aL, .int .i64 aC, .bool aY, .slice la ll lc, .int .i64 ek, .int .i64 ef, .int .i64 en, .slice ta tl tc, .int .i64 ps, .int .i64 pi, .int .i64 pm, .slice da dl dc] mg) := fun cs => (om3.same (row_same cs (by omega))).mono (by omega)
  clear hb3 hx3 hz3 hb4 om3 HC5 HXM
  go_wp2_with fail
  refine (unhide HC6).mono ?_
  rintro e y4 ⟨rfl, rfl⟩
  clear HC6
  by_cases hF0 : F = 0
  · subst hF0
    have hU : U = (mg, 0) := (unhide HU).trans (if_pos rfl)
    have HU1 := hide hU
    clear hU HU
    go_wp2_with (first | refine wpList_load_row rfl 34 _ rfl M rfl 34 _ (0, 0) _ (unhide HX3) Tryz.underlying34 rfl (by kernel_rfl) ?_ | refine wpList_store_row rfl 34 _ _ rfl w.heap.size _ _ rfl rfl 34 (unhide HZ9) (by kernel_rfl) rfl (by first | kernel_rfl | simp [Value.oneCell']) ?_)
    refine bodyPost_ret (results_cell_row_tmp rfl _ _ w.heap.size 34 #[.int .i64 aK, .int .i64 aF, .int .i64 aO, .int .i64 aT, .int .i64 aS, .int .i64 aL, .int .i64 aC, .bool aY, .slice la ll lc, .int .i64 ek, .int .i64 ef, .int .i64 en, .slice ta tl tc, .int .i64 ps, .int .i64 pi, .int .i64 pm, .slice da dl dc] (0, 0) _ rfl (setRow_heap _ _ _ _ _ _ (unhide HZ9)) Tryz.underlying34 rfl (by kernel_rfl)) rfl ?_
    rw [unhide HU1]
    exact ⟨_, rfl, unhide HO9 _, below_setRow (unhide HB9) (Nat.le_refl _)⟩
  · have hU : U = (dG, F) := (unhide HU).trans (if_neg hF0)
    have HU1 := hide hU
    have hFb : (F != 0) = true := by simpa using hF0
    clear hU HU
    go_wp2_with (refine wpList_store_row rfl 34 _ _ rfl w.heap.size _ _ rfl rfl 34 (unhide HZ9) (by kernel_rfl) rfl (by first | kernel_rfl | simp [Value.oneCell']) ?_)
    refine bodyPost_ret (results_cell_row_tmp rfl _ _ w.heap.size 34 #[.int .i64 0, .int .i64 0, .int .i64 0, .int .i64 0, .int .i64 0, .int .i64 0, .int .i64 0, .bool false, .slice none 0 0, .int .i64 0, .int .i64 0, .int .i64 0, .slice none 0 0, .int .i64 0, .int .i64 0, .int .i64 0, .slice none 0 0] (0, 0) _ rfl (setRow_heap _ _ _ _ _ _ (unhide HZ9)) Tryz.underlying34 rfl (by kernel_rfl)) rfl ?_
    rw [unhide HU1]
    exact ⟨_, rfl, ownM_zero _ _, below_setRow (unhide HB9) (Nat.le_refl _)⟩
end Go.Proofs.YtggllgimlfchhaaGreat
