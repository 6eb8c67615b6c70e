/- Several texts as one. -/
import Derived.Test.YtggllgimlfchhaaGreatKZ29

/- Record: TakeEntry. -/
namespace Go.Proofs.YtggllgimlfchhaaGreat
open Go.RowKit
set_option maxRecDepth 100000

theorem results_cell_row_tmp {P : Program} {fn : Func} {p u : Tmp} {ty : TypeId} (h : fn.results = #[.cell p ty, .tmp u]) (tmps : Array Value) (w : World) (g : Nat) (t : TypeId) (cs : Array Value) (fr : Nat × Nat) (d : TypeDesc)
    (hp : tmps.getD p undef = .pointer (some ⟨g, 0, none⟩)) (hg : w.heap[g]? = some (.cells cs t fr))
    (hu : P.underlying ty = some d) (hd : (match d with | .struct _ | .array _ _ => true | _ => false) = true) (hi : (P.info? ty).map (·.size) = some cs.size) :
    (results fn tmps).run P w = .ok (.tuple #[.agg cs, tmps.getD u undef]) w := by
  rw [results_cell_tmp h, hp]
  simp [asAddr, run_loadVar_row w g t ty cs fr d hg hu hd hi, Result.andThen]

def RS.fin (s : RS) : RS := if s.er = 0 ∧ s.zs ≠ [] then { s with er := 13 } else s
theorem fin_no {s : RS} (h : ¬ (s.er = 0 ∧ s.zs ≠ [])) : s.fin = s := by unfold RS.fin; rw [if_neg h]
theorem fin_yes {s : RS} (h : s.er = 0 ∧ s.zs ≠ []) : s.fin = { s with er := 13 } := by unfold RS.fin; rw [if_pos h]
set_option maxHeartbeats 800000 in
theorem end_r {w : World} {R lo : Nat} {s : RS} (h : RdS w R lo s) :
    Calls Tryz.prog 45 #[.pointer (some ⟨R, 0, none⟩)] w fun e w' => e = .returned (.tuple #[]) ∧ RdS w' R lo s.fin ∧ But R w w' := by
  obtain ⟨v, hv, hsb⟩ := h.cb
  obtain ⟨ao, cap, rfl, _⟩ := id hsb
  have h1 := h.ce
  have hf := h.fr
  have HH := hide h
  by_cases he : s.er = 0
  · by_cases hz : s.zs = []
    · rw [fin_no (fun c => c.2 hz)]
      rw [he] at h1
      rw [hz] at hv
      clear h hsb he
      simp only [List.length_nil] at hv
      go_enter Tryz.func45, Tryz.ntmps45
      go_wp2
      go_end0
      exact ⟨rfl, unhide HH, But.refl _ _⟩
    · rw [fin_yes ⟨he, hz⟩]
      have HE := hide (h.err (er' := 13))
      have hlen : 0 < s.zs.length := List.length_pos_iff.2 hz
      rw [he] at h1
      clear h hsb he
      generalize s.zs.length = L at *
      go_enter Tryz.func45, Tryz.ntmps45
      go_wp2
      go_end0
      exact ⟨rfl, unhide HE, (But.refl _ _).set 1 _⟩
  · rw [fin_no (fun c => he c.1)]
    clear h hsb
    generalize s.er = er at h1 he
    have heb : (er == 0) = false := by simpa using he
    go_enter Tryz.func45, Tryz.ntmps45
    go_wp2
    go_end0
    exact ⟨rfl, unhide HH, But.refl _ _⟩

def RS.fault (s : RS) (b : Bool) : Int := if s.er ≠ 0 then s.er else if b && !s.un then 0 else 40
set_option maxHeartbeats 800000 in
theorem fault_r {w : World} {R lo : Nat} {s : RS} (h : RdS w R lo s) (b : Bool) :
    Calls Tryz.prog 46 #[.pointer (some ⟨R, 0, none⟩), .bool b] w fun e w' => e = .returned (.int .i64 (s.fault b)) ∧ w = w' := by
  have h1 := h.ce
  have h2 := h.cu
  by_cases he : s.er = 0
  · have hfe : s.fault b = if b && !s.un then 0 else 40 := by unfold RS.fault; rw [if_neg (by simpa using he)]
    rw [hfe]
    rw [he] at h1
    clear h he hfe
    have HV := hide (verdict_any (b && !s.un) w)
    generalize s.un = un at *
    cases b
    · simp only [Bool.false_and] at HV ⊢
      go_enter Tryz.func46, Tryz.ntmps46
      go_wp2_with fail
      refine (unhide HV).mono ?_
      rintro e w1 ⟨rfl, rfl⟩
      go_wp2
      go_ret
      exact ⟨rfl, rfl⟩
    · simp only [Bool.true_and] at HV ⊢
      obtain ⟨r, hr⟩ : ∃ r : Int, (if (!un) = true then 0 else 40) = r := ⟨_, rfl⟩
      rw [hr] at HV ⊢
      clear hr
      go_enter Tryz.func46, Tryz.ntmps46
      go_wp2_with fail
      refine (unhide HV).mono ?_
      rintro e w1 ⟨rfl, rfl⟩
      go_wp2
      go_ret
      exact ⟨rfl, rfl⟩
  · have hfe : s.fault b = s.er := by unfold RS.fault; rw [if_pos he]
    rw [hfe]
    clear h hfe
    generalize s.er = er at h1 he ⊢
    have heb : (er != 0) = true := by simpa using he
    go_enter Tryz.func46, Tryz.ntmps46
    go_wp2
    go_ret
    exact ⟨rfl, rfl⟩

/-- What bytes say as an entry. -/
def takeE (zs : List Int) : EntD × Int :=
  let r := (RS.mk zs 0 false).entry
  let e := r.2.fin.fault (mayE r.1)
  if e = 0 then (r.1, 0) else (dE, e)

set_option maxHeartbeats 3200000 in
theorem TakeEntry_any (bv : Value) (zs : List Int) (w : World) (hs : Sees w .u8 bv zs) (hby : Byt zs) (hm : zs.length ≤ 140737488351232) :
    Calls Tryz.prog 20 #[bv] w fun e w' => ∃ cs, e = .returned (.tuple #[.agg cs, .int .i64 (takeE zs).2]) ∧ OwnE w.heap.size w' cs (takeE zs).1 ∧ Below w.heap.size w w' := by
  obtain ⟨ao, cap, rfl, _⟩ := id hs
  have hal : Below w.heap.size w ((w.alloc (.cells #[.int .i64 0, .int .i64 0, .int .i64 0, .slice none 0 0] 29)).alloc (.cells #[.slice ao zs.length cap, .int .i64 0, .bool false] 77)) := ((Below.refl _ _).alloc (Nat.le_refl _) _).alloc (by simp) _
  have hszw : (w.alloc (.cells #[.int .i64 0, .int .i64 0, .int .i64 0, .slice none 0 0] 29)).heap.size = w.heap.size + 1 := by simp
  have hRb : ((w.alloc (.cells #[.int .i64 0, .int .i64 0, .int .i64 0, .slice none 0 0] 29)).alloc (.cells #[.slice ao zs.length cap, .int .i64 0, .bool false] 77)).heap[w.heap.size + 1]? = some (.cells #[.slice ao zs.length cap, .int .i64 0, .bool false] 77) := by have := heap_alloc_new (w.alloc (.cells #[.int .i64 0, .int .i64 0, .int .i64 0, .slice none 0 0] 29)) (.cells #[.slice ao zs.length cap, .int .i64 0, .bool false] 77); rw [hszw] at this; exact this
  have hZb : ((w.alloc (.cells #[.int .i64 0, .int .i64 0, .int .i64 0, .slice none 0 0] 29)).alloc (.cells #[.slice ao zs.length cap, .int .i64 0, .bool false] 77)).heap[w.heap.size]? = some (.cells #[.int .i64 0, .int .i64 0, .int .i64 0, .slice none 0 0] 29) := (Below.heap_alloc _ _ _ (by simp)).trans (heap_alloc_new w _)
  have hRd : RdS ((w.alloc (.cells #[.int .i64 0, .int .i64 0, .int .i64 0, .slice none 0 0] 29)).alloc (.cells #[.slice ao zs.length cap, .int .i64 0, .bool false] 77)) (w.heap.size + 1) w.heap.size ⟨zs, 0, false⟩ :=
    ⟨⟨_, cell_of_heap hRb, hs.upto.below hal (Nat.le_refl _)⟩, cell_of_heap hRb, cell_of_heap hRb, fun o => frozen_of_heap hRb, by omega, hby, hm⟩
  obtain ⟨ent, s1, hes⟩ : ∃ e s', (RS.mk zs 0 false).entry = (e, s') := ⟨_, _, rfl⟩
  have hbyt := (entry_byt (s := ⟨zs, 0, false⟩) hby).2
  have hte : takeE zs = (if s1.fin.fault (mayE ent) = 0 then (ent, 0) else (dE, s1.fin.fault (mayE ent))) := by simp only [takeE, hes]
  have HC0 := hide (entry_r hRd)
  rw [hes] at hbyt HC0
  simp only at hbyt HC0
  have HRT := hide hbyt
  have HZ0 := hide hZb
  have HB0 : Hid (Below w.heap.size w ((w.alloc (.cells #[.int .i64 0, .int .i64 0, .int .i64 0, .slice none 0 0] 29)).alloc (.cells #[.slice ao zs.length cap, .int .i64 0, .bool false] 77))) := hal
  have HSZ0 : Hid (((w.alloc (.cells #[.int .i64 0, .int .i64 0, .int .i64 0, .slice none 0 0] 29)).alloc (.cells #[.slice ao zs.length cap, .int .i64 0, .bool false] 77)).heap.size = w.heap.size + 2) := by show _ = _; simp
  obtain ⟨F, hF⟩ : ∃ F, s1.fin.fault (mayE ent) = F := ⟨_, rfl⟩
  rw [hF] at hte
  have HF := hide hF
  clear hal hRd hRb hZb hes hbyt hby hm hs hF
  obtain ⟨TE, hTE⟩ : ∃ r, takeE zs = r := ⟨_, rfl⟩
  rw [hTE] at hte ⊢
  have HTE := hide hte
  clear hTE hte
  go_enter Tryz.func20, Tryz.ntmps20
  go_wp2_with fail
  refine (unhide HC0).mono ?_
  rintro e y1 ⟨cs, rfl, hoe, p1, q1⟩
  obtain ⟨tv, rfl, hot⟩ := hoe
  obtain ⟨ax, ct, rfl⟩ := hot.shape
  have hsz0 := unhide HSZ0
  have hz1 : y1.heap[w.heap.size]? = some (.cells #[.int .i64 0, .int .i64 0, .int .i64 0, .slice none 0 0] 29) := q1.same (unhide HZ0) (by omega)
  have hb1 : Below w.heap.size w y1 := (unhide HB0).trans (q1.below (by omega) (by omega))
  have hsy := q1.size
  obtain ⟨ek, ek'⟩ : ∃ x, ent.kind = x := ⟨_, rfl⟩
  obtain ⟨ef, ef'⟩ : ∃ x, ent.frm = x := ⟨_, rfl⟩
  obtain ⟨en, en'⟩ : ∃ x, ent.num = x := ⟨_, rfl⟩
  obtain ⟨tl, tl'⟩ : ∃ x, ent.txns.length = x := ⟨_, rfl⟩
  rw [tl'] at hot
  rw [ek', ef', en', tl']
  have hal1 : Below y1.heap.size y1 (y1.alloc (.cells #[.int .i64 ek, .int .i64 ef, .int .i64 en, .slice ax tl ct] 29)) := (Below.refl _ _).alloc (Nat.le_refl _) _
  have hx1 : (y1.alloc (.cells #[.int .i64 ek, .int .i64 ef, .int .i64 en, .slice ax tl ct] 29)).heap[y1.heap.size]? = some (.cells #[.int .i64 ek, .int .i64 ef, .int .i64 en, .slice ax tl ct] 29) := heap_alloc_new y1 _
  have hz1b : (y1.alloc (.cells #[.int .i64 ek, .int .i64 ef, .int .i64 en, .slice ax tl ct] 29)).heap[w.heap.size]? = some (.cells #[.int .i64 0, .int .i64 0, .int .i64 0, .slice none 0 0] 29) := (Below.heap_alloc _ _ _ (by omega)).trans hz1
  have hot1 : OwnTs (w.heap.size + 2) (y1.alloc (.cells #[.int .i64 ek, .int .i64 ef, .int .i64 en, .slice ax tl ct] 29)) (.slice ax tl ct) ent.txns := (hot.mono (by omega)).below hal1
  have HC1 := hide (end_r (p1.below hal1))
  have HX1 := hide (And.intro hx1 hz1b)
  have HOT1 := hide hot1
  have HBw1 : Hid (Below w.heap.size w (y1.alloc (.cells #[.int .i64 ek, .int .i64 ef, .int .i64 en, .slice ax tl ct] 29))) := hb1.trans (hal1.mono hb1.size)
  have HEQ : Hid ((#[.int .i64 ent.kind, .int .i64 ent.frm, .int .i64 ent.num, .slice ax tl ct] : Array Value) = #[.int .i64 ek, .int .i64 ef, .int .i64 en, .slice ax tl ct]) := by show _ = _; rw [ek', ef', en']
  have HYS : Hid (w.heap.size + 2 ≤ y1.heap.size) := by show _ ≤ _; omega
  clear p1 q1 hot hot1 hx1 hz1b hal1 hz1 hb1 hsy ek' ef' en' tl' HC0 hsz0
  obtain ⟨B1, hB1⟩ : ∃ B, y1.heap.size = B := ⟨_, rfl⟩
  rw [hB1] at HX1 HYS
  go_wp2_with fail
  refine (unhide HC1).mono ?_
  rintro e y2 ⟨rfl, p2, q2⟩
  have hB1s := unhide HYS
  have hx2 := q2.same (unhide HX1).1 (by omega)
  have hz2 := q2.same (unhide HX1).2 (by omega)
  have hot2 := (unhide HOT1).but q2 (by omega)
  have hseeE : SeesE y2 #[.int .i64 ek, .int .i64 ef, .int .i64 en, .slice ax tl ct] ent := ⟨_, (unhide HEQ).symm, hot2.sees (unhide HRT).1 (unhide HRT).2⟩
  have HC2 := hide (entryMayBe_any _ ent y2 hseeE (fun t ht => ⟨((unhide HRT).2 t ht).code, by have := ((unhide HRT).2 t ht).args; omega⟩))
  have HBw2 : Hid (Below w.heap.size w y2) := (unhide HBw1).trans (q2.below (by omega) (by have := (unhide HBw1).size; omega))
  have t0 : y2.cell? ⟨B1, 0, none⟩ = some (.int .i64 ek) := cell_of_heap hx2
  have t1 : y2.cell? ⟨B1, 1, none⟩ = some (.int .i64 ef) := cell_of_heap hx2
  have t2 : y2.cell? ⟨B1, 2, none⟩ = some (.int .i64 en) := cell_of_heap hx2
  have t3 : y2.cell? ⟨B1, 3, none⟩ = some (.slice ax tl ct) := cell_of_heap hx2
  have HX2 := hide (And.intro hx2 hz2)
  have HP2 := hide p2
  have HOT2 := hide hot2
  have HS2 : Hid (B1 < y2.heap.size ∧ w.heap.size < y2.heap.size) := ⟨(Array.getElem?_eq_some_iff.1 hx2).1, (Array.getElem?_eq_some_iff.1 hz2).1⟩
  clear p2 q2 hx2 hz2 hot2 hseeE HC1
  go_wp2_with fail
  refine (unhide HC2).mono ?_
  rintro e y3 ⟨rfl, hb3⟩
  have HC3 := hide (fault_r ((unhide HP2).below hb3) (mayE ent))
  have hx3 : y3.heap[B1]? = some (.cells #[.int .i64 ek, .int .i64 ef, .int .i64 en, .slice ax tl ct] 29) := (hb3.block B1 (unhide HS2).1).trans (unhide HX2).1
  have hz3 : y3.heap[w.heap.size]? = some (.cells #[.int .i64 0, .int .i64 0, .int .i64 0, .slice none 0 0] 29) := (hb3.block w.heap.size (unhide HS2).2).trans (unhide HX2).2
  have HOT3 := hide ((unhide HOT2).below hb3)
  have HBw3 : Hid (Below w.heap.size w y3) := (unhide HBw2).trans (hb3.mono (unhide HBw2).size)
  rw [unhide HF] at HC3
  have u0 : y3.cell? ⟨B1, 0, none⟩ = some (.int .i64 ek) := cell_of_heap hx3
  have u1 : y3.cell? ⟨B1, 1, none⟩ = some (.int .i64 ef) := cell_of_heap hx3
  have u2 : y3.cell? ⟨B1, 2, none⟩ = some (.int .i64 en) := cell_of_heap hx3
  have u3 : y3.cell? ⟨B1, 3, none⟩ = some (.slice ax tl ct) := cell_of_heap hx3
  have z0 : y3.cell? ⟨w.heap.size, 0, none⟩ = some (.int .i64 0) := cell_of_heap hz3
  have z1 : y3.cell? ⟨w.heap.size, 1, none⟩ = some (.int .i64 0) := cell_of_heap hz3
  have z2 : y3.cell? ⟨w.heap.size, 2, none⟩ = some (.int .i64 0) := cell_of_heap hz3
  have z3 : y3.cell? ⟨w.heap.size, 3, none⟩ = some (.slice none 0 0) := cell_of_heap hz3
  have fz : ∀ o, y3.frozen? ⟨w.heap.size, o, none⟩ = false := fun o => frozen_of_heap hz3
  have HZ3 := hide hz3
  clear hb3 hx3 hz3 HC2
  go_wp2_with fail
  refine (unhide HC3).mono ?_
  rintro e y4 ⟨rfl, rfl⟩
  clear HC3
  by_cases hF0 : F = 0
  · subst hF0
    have hTE : TE = (ent, 0) := (unhide HTE).trans (if_pos rfl)
    have HT := hide hTE
    clear hTE
    go_wp2
    refine bodyPost_ret (results_cell_row_tmp rfl _ _ w.heap.size 29 #[.int .i64 ek, .int .i64 ef, .int .i64 en, .slice ax tl ct] (0, 0) _ rfl (setCell_heap (setCell_heap (setCell_heap (setCell_heap (unhide HZ3))))) Tryz.underlying29 rfl (by kernel_rfl)) rfl ?_
    rw [unhide HT]
    exact ⟨_, rfl, ⟨_, (unhide HEQ).symm, (((((unhide HOT3).setR (by omega)).setR (by omega)).setR (by omega)).setR (by omega)).mono (by omega)⟩, (((((unhide HBw3).setCell (p := ⟨w.heap.size, 0, none⟩) (Nat.le_refl _) _).setCell (p := ⟨w.heap.size, 1, none⟩) (Nat.le_refl _) _).setCell (p := ⟨w.heap.size, 2, none⟩) (Nat.le_refl _) _).setCell (p := ⟨w.heap.size, 3, none⟩) (Nat.le_refl _) _)⟩
  · have hTE : TE = (dE, F) := (unhide HTE).trans (if_neg hF0)
    have HT := hide hTE
    have hFb : (F != 0) = true := by simpa using hF0
    clear hTE
    go_wp2
    refine bodyPost_ret (results_cell_row_tmp rfl _ _ w.heap.size 29 #[.int .i64 0, .int .i64 0, .int .i64 0, .slice none 0 0] (0, 0) _ rfl (setCell_heap (setCell_heap (setCell_heap (setCell_heap (unhide HZ3))))) Tryz.underlying29 rfl (by kernel_rfl)) rfl ?_
    rw [unhide HT]
    exact ⟨_, rfl, ⟨_, rfl, OwnTs.nil _ _⟩, (((((unhide HBw3).setCell (p := ⟨w.heap.size, 0, none⟩) (Nat.le_refl _) _).setCell (p := ⟨w.heap.size, 1, none⟩) (Nat.le_refl _) _).setCell (p := ⟨w.heap.size, 2, none⟩) (Nat.le_refl _) _).setCell (p := ⟨w.heap.size, 3, none⟩) (Nat.le_refl _) _)⟩
end Go.Proofs.YtggllgimlfchhaaGreat

/- Record: the simplest batch. -/
namespace Go.Proofs.YtggllgimlfchhaaGreat
open Go.RowKit
set_option maxRecDepth 100000

def t1 : TxnD := ⟨1, 3, [], [], [], []⟩
def x1 : EntD := ⟨1, 2, 5, [t1]⟩
def want : List Int := [2, 1, 2, 2, 2, 5, 2, 1, 2, 1, 2, 3, 0, 0, 0, 0]
theorem x1_may : mayE x1 = true := by decide
theorem x1_form : entB x1 = want := by decide
theorem x1_read : takeE want = (x1, 0) := by decide

theorem seesK_nil (w : World) : SeesK w (.slice none 0 0) [] := ⟨none, 0, 0, 0, rfl, Nat.le_refl _, by simp, fun h => absurd h (by simp), fun t h => absurd h (by simp)⟩
set_option maxHeartbeats 1600000 in
theorem simple_any (w : World) : Calls Tryz.prog 26 #[] w fun e w' => ∃ ta tc bv, e = .returned (.tuple #[.agg #[.int .i64 1, .int .i64 2, .int .i64 5, .slice ta 1 tc], bv]) ∧ SeesTs w' (.slice ta 1 tc) [t1] ∧ Sees w' .u8 bv want ∧ Below w.heap.size w w' := by
  have hal : Below w.heap.size w (((w.alloc (.cells #[.int .i64 1, .int .i64 2, .int .i64 5, .slice (some ⟨w.heap.size + 1, 0, none⟩) 1 1] 29)).alloc (.cells #[.int .i64 1, .int .i64 3, .slice none 0 0, .slice none 0 0, .slice none 0 0, .slice none 0 0] 26)).alloc (.cells (ints .u8 want).toArray 5)) := (((Below.refl _ _).alloc (Nat.le_refl _) _).alloc (by simp) _).alloc (by simp; omega) _
  have e1 : (w.alloc (.cells #[.int .i64 1, .int .i64 2, .int .i64 5, .slice (some ⟨w.heap.size + 1, 0, none⟩) 1 1] 29)).heap.size = w.heap.size + 1 := by simp
  have e2 : ((w.alloc (.cells #[.int .i64 1, .int .i64 2, .int .i64 5, .slice (some ⟨w.heap.size + 1, 0, none⟩) 1 1] 29)).alloc (.cells #[.int .i64 1, .int .i64 3, .slice none 0 0, .slice none 0 0, .slice none 0 0, .slice none 0 0] 26)).heap.size = w.heap.size + 1 + 1 := by simp
  have h0 : (((w.alloc (.cells #[.int .i64 1, .int .i64 2, .int .i64 5, .slice (some ⟨w.heap.size + 1, 0, none⟩) 1 1] 29)).alloc (.cells #[.int .i64 1, .int .i64 3, .slice none 0 0, .slice none 0 0, .slice none 0 0, .slice none 0 0] 26)).alloc (.cells (ints .u8 want).toArray 5)).heap[w.heap.size]? = some (.cells #[.int .i64 1, .int .i64 2, .int .i64 5, .slice (some ⟨w.heap.size + 1, 0, none⟩) 1 1] 29) := (Below.heap_alloc _ _ _ (by simp; omega)).trans ((Below.heap_alloc _ _ _ (by simp)).trans (heap_alloc_new w _))
  have h1 : (((w.alloc (.cells #[.int .i64 1, .int .i64 2, .int .i64 5, .slice (some ⟨w.heap.size + 1, 0, none⟩) 1 1] 29)).alloc (.cells #[.int .i64 1, .int .i64 3, .slice none 0 0, .slice none 0 0, .slice none 0 0, .slice none 0 0] 26)).alloc (.cells (ints .u8 want).toArray 5)).heap[w.heap.size + 1]? = some (.cells #[.int .i64 1, .int .i64 3, .slice none 0 0, .slice none 0 0, .slice none 0 0, .slice none 0 0] 26) := (Below.heap_alloc _ _ _ (by simp)).trans (by have := heap_alloc_new (w.alloc (.cells #[.int .i64 1, .int .i64 2, .int .i64 5, .slice (some ⟨w.heap.size + 1, 0, none⟩) 1 1] 29)) (.cells #[.int .i64 1, .int .i64 3, .slice none 0 0, .slice none 0 0, .slice none 0 0, .slice none 0 0] 26); rw [e1] at this; exact this)
  have hs : Sees (((w.alloc (.cells #[.int .i64 1, .int .i64 2, .int .i64 5, .slice (some ⟨w.heap.size + 1, 0, none⟩) 1 1] 29)).alloc (.cells #[.int .i64 1, .int .i64 3, .slice none 0 0, .slice none 0 0, .slice none 0 0, .slice none 0 0] 26)).alloc (.cells (ints .u8 want).toArray 5)) .u8 (.slice (some ⟨w.heap.size + 1 + 1, 0, none⟩) 16 16) want := by
    have := (sees_of_own (own_new ((w.alloc (.cells #[.int .i64 1, .int .i64 2, .int .i64 5, .slice (some ⟨w.heap.size + 1, 0, none⟩) 1 1] 29)).alloc (.cells #[.int .i64 1, .int .i64 3, .slice none 0 0, .slice none 0 0, .slice none 0 0, .slice none 0 0] 26)) .u8 want 5 0 16 rfl (by omega) (by unfold maxLen; omega))).2
    rw [e2] at this
    exact this
  have hts : SeesTs (((w.alloc (.cells #[.int .i64 1, .int .i64 2, .int .i64 5, .slice (some ⟨w.heap.size + 1, 0, none⟩) 1 1] 29)).alloc (.cells #[.int .i64 1, .int .i64 3, .slice none 0 0, .slice none 0 0, .slice none 0 0, .slice none 0 0] 26)).alloc (.cells (ints .u8 want).toArray 5)) (.slice (some ⟨w.heap.size + 1, 0, none⟩) 1 1) [t1] := by
    refine ⟨some ⟨w.heap.size + 1, 0, none⟩, 1, w.heap.size + 1, 0, rfl, Nat.le_refl _, by simp, fun _ => rfl, fun t ht => ?_⟩
    obtain rfl : t = 0 := by simpa using ht
    exact ⟨_, _, _, _, cell_of_heap h1, cell_of_heap h1, cell_of_heap h1, cell_of_heap h1, cell_of_heap h1, cell_of_heap h1, _, _, _, _, rfl, Sees.nil _ _, Sees.nil _ _, seesK_nil _, seesK_nil _⟩
  have HH := hide (And.intro h0 (And.intro hs (And.intro hts hal)))
  clear hal h0 h1 hs hts e1 e2
  go_enter Tryz.func26, Tryz.ntmps26
  go_wp2_with fail
  refine bodyPost_ret (results_cell_row_tmp rfl _ _ w.heap.size 29 #[.int .i64 1, .int .i64 2, .int .i64 5, .slice (some ⟨w.heap.size + 1, 0, none⟩) 1 1] (0, 0) _ rfl (unhide HH).1 Tryz.underlying29 rfl (by kernel_rfl)) rfl ?_
  exact ⟨_, _, _, rfl, (unhide HH).2.2.1, (unhide HH).2.1, (unhide HH).2.2.2⟩

theorem x1_fit : FitE x1 := by
  refine ⟨by decide, by decide, by decide, fun t ht => ?_, fun t ht => ?_⟩
  · simp only [x1, List.mem_singleton] at ht
    subst ht
    exact ⟨by decide, by decide, (fun b hb => by cases hb), (fun b hb => by cases hb), (fun b hb => by cases hb), (fun b hb => by cases hb)⟩
  · simp only [x1, List.mem_singleton] at ht
    subst ht
    decide
theorem want_byt : Byt want := by
  intro b hb
  simp only [want, List.mem_cons, List.not_mem_nil, or_false] at hb
  omega

set_option maxHeartbeats 3200000 in
theorem begun_any (w : World) : Calls Tryz.prog 6 #[] w fun e w' => e = .returned (.bool true) ∧ Below w.heap.size w w' := by
  go_enter Tryz.func6, Tryz.ntmps6
  go_wp2_with fail
  refine (simple_any w).mono ?_
  rintro e w1 ⟨ta, tc, bv, rfl, hts, hbs, hb1⟩
  obtain ⟨ab, cb, rfl, _⟩ := id hbs
  have hal : Below w1.heap.size w1 (w1.alloc (.cells #[.int .i64 1, .int .i64 2, .int .i64 5, .slice ta 1 tc] 29)) := (Below.refl _ _).alloc (Nat.le_refl _) _
  have hts1 := hts.below hal
  have HE := hide (Entry_any (w1.alloc (.cells #[.int .i64 1, .int .i64 2, .int .i64 5, .slice ta 1 tc] 29)).heap.size #[.int .i64 1, .int .i64 2, .int .i64 5, .slice ta 1 tc] x1 (w1.alloc (.cells #[.int .i64 1, .int .i64 2, .int .i64 5, .slice ta 1 tc] 29)) (Nat.le_refl _) ⟨_, rfl, StTs.of hts1⟩ x1_fit)
  rw [x1_may] at HE
  simp only [if_true, x1_form] at HE
  have HBx : Hid (∀ w', Below (w1.alloc (.cells #[.int .i64 1, .int .i64 2, .int .i64 5, .slice ta 1 tc] 29)).heap.size (w1.alloc (.cells #[.int .i64 1, .int .i64 2, .int .i64 5, .slice ta 1 tc] 29)) w' → w'.cell? ⟨w1.heap.size, 0, none⟩ = some (.int .i64 1) ∧ w'.cell? ⟨w1.heap.size, 1, none⟩ = some (.int .i64 2) ∧ w'.cell? ⟨w1.heap.size, 2, none⟩ = some (.int .i64 5) ∧ w'.cell? ⟨w1.heap.size, 3, none⟩ = some (.slice ta 1 tc)) := fun w' hb => by
    have hx : w'.heap[w1.heap.size]? = some (.cells #[.int .i64 1, .int .i64 2, .int .i64 5, .slice ta 1 tc] 29) := (hb.block _ (by simp)).trans (heap_alloc_new w1 _)
    exact ⟨cell_of_heap hx, cell_of_heap hx, cell_of_heap hx, cell_of_heap hx⟩
  have HTS : Hid (∀ w', Below (w1.alloc (.cells #[.int .i64 1, .int .i64 2, .int .i64 5, .slice ta 1 tc] 29)).heap.size (w1.alloc (.cells #[.int .i64 1, .int .i64 2, .int .i64 5, .slice ta 1 tc] 29)) w' → SeesTs w' (.slice ta 1 tc) [t1]) := fun w' hb => hts1.below hb
  have HBS : Hid (∀ w', Below (w1.alloc (.cells #[.int .i64 1, .int .i64 2, .int .i64 5, .slice ta 1 tc] 29)).heap.size (w1.alloc (.cells #[.int .i64 1, .int .i64 2, .int .i64 5, .slice ta 1 tc] 29)) w' → Sees w' .u8 (.slice ab want.length cb) want) := fun w' hb => (hbs.below hal).below hb
  have HB1 : Hid (Below w.heap.size w (w1.alloc (.cells #[.int .i64 1, .int .i64 2, .int .i64 5, .slice ta 1 tc] 29))) := hb1.trans (hal.mono hb1.size)
  clear hts hbs hb1 hal hts1
  go_wp2_with fail
  refine (unhide HE).mono ?_
  rintro e w2 ⟨x, rfl, hox, hb2⟩
  obtain ⟨ax, cx, rfl⟩ := own_shape hox
  have HX := hide hox
  have HB2 := hide hb2
  have HT := hide (TakeEntry_any _ want w2 (unhide HBS w2 hb2) want_byt (by decide))
  rw [x1_read] at HT
  simp only at HT
  clear hox hb2 HE
  go_wp2_with fail
  refine (unhide HT).mono ?_
  rintro e w3 ⟨cs, rfl, hoe, hb3⟩
  obtain ⟨tv, rfl, hot⟩ := hoe
  obtain ⟨at3, ct3, rfl⟩ := hot.shape
  have hrt : ∀ t ∈ x1.txns, ReadT t := fun t ht => by
    simp only [x1, List.mem_singleton] at ht
    subst ht
    exact ⟨(fun b hb => by cases hb), by decide, by decide, by decide⟩
  have hst := hot.sees (by decide) hrt
  have hal3 : Below w3.heap.size w3 (w3.alloc (.cells #[.int .i64 1, .int .i64 2, .int .i64 5, .slice at3 1 ct3] 29)) := (Below.refl _ _).alloc (Nat.le_refl _) _
  have hb2' := unhide HB2
  have hb23 : Below (w1.alloc (.cells #[.int .i64 1, .int .i64 2, .int .i64 5, .slice ta 1 tc] 29)).heap.size (w1.alloc (.cells #[.int .i64 1, .int .i64 2, .int .i64 5, .slice ta 1 tc] 29)) (w3.alloc (.cells #[.int .i64 1, .int .i64 2, .int .i64 5, .slice at3 1 ct3] 29)) := hb2'.trans ((hb3.mono hb2'.size).trans (hal3.mono (Nat.le_trans hb2'.size hb3.size)))
  have hQ := equal_any _ _ want want (w3.alloc (.cells #[.int .i64 1, .int .i64 2, .int .i64 5, .slice at3 1 ct3] 29)) (((sees_of_own (unhide HX)).2.below hb3).below hal3) (unhide HBS _ hb23) want_byt want_byt
  have HQ := hide hQ
  have hok : OkTs x1.txns := x1_fit.ok
  have HS := hide (refSameEntry_any #[.int .i64 1, .int .i64 2, .int .i64 5, .slice ta 1 tc] #[.int .i64 1, .int .i64 2, .int .i64 5, .slice at3 1 ct3] x1 x1 _ ⟨_, rfl, unhide HTS _ hb23⟩ ⟨_, rfl, hst.below hal3⟩ hok hok)
  obtain ⟨c0, c1, c2, c3⟩ := unhide HBx _ hb23
  have HF : Hid (Below w.heap.size w (w3.alloc (.cells #[.int .i64 1, .int .i64 2, .int .i64 5, .slice at3 1 ct3] 29))) := (unhide HB1).trans (hb23.mono (unhide HB1).size)
  clear hot hb3 hst hal3 hb2' hb23 hQ hrt hok HT
  simp only [decide_true] at HQ HS
  go_wp2_with fail
  refine (unhide HQ).mono ?_
  rintro e w4 ⟨rfl, rfl⟩
  go_wp2_with fail
  refine (unhide HS).mono ?_
  rintro e w5 ⟨rfl, hb5⟩
  have HG : Hid (Below w.heap.size w w5) := (unhide HF).trans (hb5.mono (unhide HF).size)
  clear hb5
  go_wp2_with fail
  go_ret
  exact ⟨rfl, unhide HG⟩
end Go.Proofs.YtggllgimlfchhaaGreat
