/- Several texts as one. -/
import Derived.Test.YtggllgimlfchhaaGreatKM
import Derived.Test.YtggllgimlfchhaaGreatKZ30
import Derived.Deep.RegionHeld3

/- The document's own reader (package trivetref04): Ends, and what a key is to it. -/
namespace Go.Proofs.YtggllgimlfchhaaGreat
open Go.RowKit
set_option maxRecDepth 100000

theorem Sees.setI {w : World} {v : Value} {zs : List Int} {p : Addr} {n : Int} (h : Sees w .u8 v zs) (hp : w.cell? p = some (.int .i64 n)) (u : Value) : Sees (w.setCell p u) .u8 v zs := by
  obtain ⟨ao, cap, hv, hl, hn, ha⟩ := h
  refine ⟨ao, cap, hv, hl, hn, fun a e t ht => ?_⟩
  have c := ha a e t ht
  have hne : p ≠ a.add t := fun e => by rw [← e, hp] at c; simp at c
  exact (World.cell?_setCell_other _ _ _ _ hne).trans c
theorem tb_len (l : List Int) : (tb l).1.length ≤ l.length := by
  unfold tb
  split
  · simp
  · split
    · simp
    · split
      · simp
      · simp only [List.length_take, List.length_drop]; omega
theorem Dr.grown {w w' : World} {R lo base : Nat} {z0 : List Int} {s : RS} {v : Value} {e size n : Nat} {xs : List Value} (h : Dr w R lo z0 s) (ho : w.ownsRow base e size v n xs) (hb : R < base) (hg : w.grownBy w' v.ownBlock) : Dr w' R lo z0 s :=
  h.keep fun k hk => hg.block k (by have := h.rlt; omega) (fun e => by have := (ho.lt k e.symm).1; omega)

set_option maxHeartbeats 800000 in
theorem ends_d {w : World} {R lo : Nat} {z0 : List Int} {s : RS} (h : Dr w R lo z0 s) (b : Bool) :
    Calls Tryz.prog 49 #[.pointer (some ⟨R, 0, none⟩), .bool b] w fun e w' => e = .returned (.int .i64 (s.fault b)) ∧ w = w' := by
  have h1 := h.ce
  have h2 := h.cu
  clear h
  obtain ⟨zs, er, un⟩ := s
  simp only at h1 h2
  unfold RS.fault
  simp only
  by_cases he : er = 0
  · subst he
    cases b <;> cases un <;>
    · go_enter Tryz.func49, Tryz.ntmps49
      go_wp2
      go_ret
      exact ⟨rfl, rfl⟩
  · have heb : (er == 0) = false := by simpa using he
    rw [if_pos he]
    go_enter Tryz.func49, Tryz.ntmps49
    go_wp2
    go_ret
    exact ⟨rfl, rfl⟩

/-- A key, as the document reads it. -/
def RS.dkey (s : RS) : (Int × Int) × RS := ((if w32 s.num.1 = s.num.1 then s.num.1 else 0, s.fit32.2.num.1), s.fit32.2.num.2)
theorem dkey_st (s : RS) : s.dkey.2 = s.key.2 := rfl
theorem fit_un (s : RS) (h : s.fit32.2.un = false) : w32 s.num.1 = s.num.1 := by
  unfold RS.fit32 at h
  by_cases c : w32 s.num.1 = s.num.1
  · exact c
  · rw [if_neg c] at h; simp at h
theorem num_un (s : RS) : s.num.2.un = s.un := by unfold RS.num; split <;> rfl
theorem blob_un (s : RS) : s.blob.2.un = s.un := by unfold RS.blob; split <;> rfl
theorem must_un (s : RS) (b : Bool) : (s.must b).un = s.un := by unfold RS.must; split <;> rfl
theorem len_un (s : RS) : s.len.un = s.un := by unfold RS.len; rw [must_un, num_un]
theorem fit_mono (s : RS) (h : s.un = true) : s.fit32.2.un = true := by
  unfold RS.fit32
  split
  · rw [num_un, h]
  · rfl
theorem key_mono (s : RS) (h : s.un = true) : s.key.2.un = true := by unfold RS.key; rw [num_un]; exact fit_mono s h
theorem key_same (s : RS) (h : s.key.2.un = false) : s.dkey = s.key := by
  have : s.fit32.2.un = false := by unfold RS.key at h; rwa [num_un] at h
  have e := fit_un s this
  unfold RS.dkey RS.key
  rw [if_pos e]
  unfold RS.fit32
  rw [e]
theorem iter_st (s : RS) : ∀ k, (RS.iter RS.dkey k s).2 = (RS.iter RS.key k s).2
  | 0 => rfl
  | k + 1 => by
    have ih := iter_st s k
    by_cases h : (RS.iter RS.key k s).2.er = 0
    · rw [iter_step h, iter_step (by rw [ih]; exact h), ih]; rfl
    · rw [iter_stop h 1, iter_stop (by rw [ih]; exact h) 1, ih]
theorem iter_mono (s : RS) (k : Nat) (h : (RS.iter RS.key k s).2.un = true) : (RS.iter RS.key (k + 1) s).2.un = true := by
  by_cases he : (RS.iter RS.key k s).2.er = 0
  · rw [iter_step he]; exact key_mono _ h
  · rw [iter_stop he 1]; exact h
theorem iter_first (s : RS) (h : s.un = true) : ∀ k, (RS.iter RS.key k s).2.un = true
  | 0 => h
  | k + 1 => iter_mono s k (iter_first s h k)
theorem iter_same (s : RS) : ∀ k, (RS.iter RS.key k s).2.un = false → RS.iter RS.dkey k s = RS.iter RS.key k s
  | 0, _ => rfl
  | k + 1, h => by
    have hk : (RS.iter RS.key k s).2.un = false := by
      cases c : (RS.iter RS.key k s).2.un with
      | false => rfl
      | true => rw [iter_mono s k c] at h; cases h
    have ih := iter_same s k hk
    by_cases he : (RS.iter RS.key k s).2.er = 0
    · rw [iter_step he] at h ⊢
      rw [iter_step (by rw [ih]; exact he), ih, key_same _ h]
    · rw [iter_stop he 1, iter_stop (by rw [ih]; exact he) 1, ih]
theorem list_st (s : RS) : (s.list RS.dkey).2 = (s.list RS.key).2 := iter_st _ _
theorem list_same (s : RS) (h : (s.list RS.key).2.un = false) : s.list RS.dkey = s.list RS.key := iter_same _ _ h
theorem list_mono (s : RS) (h : s.un = true) : (s.list RS.key).2.un = true := iter_first _ (by rw [len_un]; exact h) _

/-- A transaction, as the document reads it. -/
def RS.dtxn (s : RS) : TxnD × RS :=
  let a := s.num
  let b := a.2.num
  let c := b.2.blob
  let d := c.2.list RS.num
  let e := d.2.list RS.dkey
  let f := e.2.list RS.dkey
  (⟨a.1, b.1, c.1, d.1, e.1, f.1⟩, f.2)
theorem dtxn_st (s : RS) : s.dtxn.2 = s.txn.2 := by
  unfold RS.dtxn RS.txn
  simp only
  rw [list_st, list_st]
theorem dtxn_same (s : RS) (h : s.txn.2.un = false) : s.dtxn = s.txn := by
  unfold RS.txn at h
  unfold RS.dtxn RS.txn
  simp only at h ⊢
  have h1 : (((s.num.2.num.2.blob.2.list RS.num).2.list RS.key).2).un = false := by
    cases c : (((s.num.2.num.2.blob.2.list RS.num).2.list RS.key).2).un with
    | false => rfl
    | true => rw [list_mono _ c] at h; cases h
  rw [list_same _ h1, list_same _ h]
end Go.Proofs.YtggllgimlfchhaaGreat

/- The document's own reader (package trivetref04): Data, Ends, and what a key is to it. -/
namespace Go.Proofs.YtggllgimlfchhaaGreat
open Go.RowKit
set_option maxRecDepth 100000

set_option maxHeartbeats 1600000 in
theorem data_d {w : World} {R lo : Nat} {z0 : List Int} {s : RS} (h : Dr w R lo z0 s) :
    Calls Tryz.prog 138 #[.pointer (some ⟨R, 0, none⟩)] w fun e w' => ∃ x, e = .returned x ∧ w'.ownsRow w.heap.size 5 1 x s.blob.1.length (ints .u8 s.blob.1) ∧ Dr w' R lo z0 s.blob.2 ∧ But R w w' := by
  obtain ⟨i0, hi, hz0, hz1, hz2⟩ := info_parts Tryz.info5
  by_cases he : s.er = 0
  · obtain ⟨v, hv, hsb⟩ := h.cb
    obtain ⟨k, hk, hkl, hkz⟩ := h.ca
    have h1 := h.ce
    have hlen := h.len
    have hno := tb_no s.zs
    have hle := tb_size s.zs
    have hlb := tb_len s.zs
    have hzl : s.zs.length ≤ 140737488351232 := by rw [hkz, List.length_drop]; omega
    have hnum : s.blob = ((tb s.zs).1, ⟨s.zs.drop (tb s.zs).2.1, (tb s.zs).2.2, s.un⟩) := by unfold RS.blob; rw [if_pos he]
    rw [hnum]
    rw [he] at h1
    obtain ⟨ao, cap, rfl, hcap, hnil, _⟩ := id hsb
    have hcut := hsb.cut k (z0.length - k) (by omega)
    rw [List.take_of_length_le (by rw [List.length_drop]; omega), ← hkz] at hcut
    have hlz : s.zs.length = z0.length - k := by rw [hkz, List.length_drop]
    have hd : Below w.heap.size w w.drew := (Below.refl _ _).drew
    have HBD := hide (But.of (R := R) hd)
    have hx := h.below hd
    have HCV : Hid (∀ w', Below w.heap.size w.drew w' → w'.cell? ⟨R, 0, none⟩ = some (.slice ao z0.length cap) ∧ w'.cell? ⟨R, 1, none⟩ = some (.int .i64 k)) := fun w' hb => ⟨(hb.cell (p := ⟨R, 0, none⟩) h.rlt).trans hv, (hb.cell (p := ⟨R, 1, none⟩) h.rlt).trans hk⟩
    have HT := hide (refTakeBlob_any _ s.zs w.drew (hcut.sees.below hd) (by rw [hkz]; exact h.byt.drop k) (by omega))
    have HF : Hid (∀ w' e0, Below w.heap.size w.drew w' → Calls Tryz.prog 96 #[.pointer (some ⟨R, 0, none⟩), .int .i64 e0] w' fun e w'' => e = .returned (.tuple #[]) ∧ w'' = w'.setCell ⟨R, 2, none⟩ (.int .i64 e0)) := fun w' e0 hb => fail_d (hx.below hb) e0 he
    have HM : Hid (∀ w' j, Below w.heap.size w.drew w' → j ≤ s.zs.length → Dr (w'.setCell ⟨R, 1, none⟩ (.int .i64 ((k + j : Nat) : Int))) R lo z0 ⟨s.zs.drop j, s.er, s.un⟩) := fun w' j hb hj => (hx.below hb).move ((hb.cell (p := ⟨R, 1, none⟩) h.rlt).trans hk) hkz (by omega)
    have HE : Hid (∀ w' er', Below w.heap.size w.drew w' → Dr (w'.setCell ⟨R, 2, none⟩ (.int .i64 er')) R lo z0 ⟨s.zs, er', s.un⟩) := fun w' er' hb => (hx.below hb).err
    have HCL : Hid (∀ w', Below w.heap.size w.drew w' → w'.cell? ⟨R, 1, none⟩ = some (.int .i64 k) ∧ ∀ o, w'.frozen? ⟨R, o, none⟩ = false) := fun w' hb => ⟨(hb.cell (p := ⟨R, 1, none⟩) h.rlt).trans hk, (hx.below hb).fr⟩
    have HRL := hide h.rlt
    clear h hsb hcut hnum hd hx
    generalize tb s.zs = t at *
    obtain ⟨n, j, e⟩ := t
    simp only at hle hno HT hlb ⊢
    by_cases hee : e = 0
    · subst hee
      have hkj : wrap64 ((k : Int) + j) = ((k + j : Nat) : Int) := by unfold wrap64; omega
      by_cases hck : cap = k
      · subst hck
        rw [if_pos rfl] at HT
        have hy0 : z0.length - cap = 0 := by omega
        have hy1 : cap - cap = 0 := by omega
        rw [hy0, hy1] at HT
        have hle2 : z0.length = cap := by omega
        go_enter Tryz.func138, Tryz.ntmps138
        go_wp2_with fail
        refine wp_region_held_drew (S := fun x => x.cell? ⟨R, 0, none⟩ = some (.slice ao z0.length cap) ∧ x.cell? ⟨R, 1, none⟩ = some (.int .i64 cap)) (by kernel_rfl) ⟨hv, hk⟩ (fun hHeld => ?_)
        refine wpAnyH_take (i := 0) (v := ?v1x0) rfl (by kernel_rfl) (by kernel_rfl) (by kernel_rfl) (fun _ _ _ h => h) (Or.inl ⟨by rfl, ?hy1x0⟩) (by assumption) ?rest1x0
        case hy1x0 => intro w hSw; obtain ⟨g0, g1⟩ := hSw; go_simp <;> with_reducible rfl
        simp only [Act.put, List.getElem_toArray, List.getElem_cons_zero, List.setIfInBounds_toArray, List.set_cons_zero, List.set_cons_succ]
        refine wpAnyH_take (i := 1) (v := ?v2x1) rfl (by kernel_rfl) (by kernel_rfl) (by kernel_rfl) (fun _ _ _ h => h) (Or.inl ⟨by rfl, ?hy2x1⟩) (by assumption) ?rest2x1
        case hy2x1 => intro w hSw; obtain ⟨g0, g1⟩ := hSw; go_simp <;> with_reducible rfl
        simp only [Act.put, List.getElem_toArray, List.getElem_cons_zero, List.getElem_cons_succ, List.setIfInBounds_toArray, List.set_cons_zero, List.set_cons_succ]
        refine wpAnyH_take (i := 2) (v := ?v3x2) rfl (by kernel_rfl) (by kernel_rfl) (by kernel_rfl) (fun _ _ _ h => h) (Or.inl ⟨by rfl, ?hy3x2⟩) (by assumption) ?rest3x2
        case hy3x2 => intro w hSw; obtain ⟨g0, g1⟩ := hSw; go_simp <;> with_reducible rfl
        simp only [Act.put, List.getElem_toArray, List.getElem_cons_zero, List.getElem_cons_succ, List.setIfInBounds_toArray, List.set_cons_zero, List.set_cons_succ]
        refine wpAnyH_take (i := 3) (v := (.slice ao z0.length cap)) rfl (by kernel_rfl) (by kernel_rfl) (by kernel_rfl) (fun _ _ _ h => h) (Or.inl ⟨by rfl, ?hy4x3⟩) (by assumption) ?rest4x3
        case hy4x3 => intro w hSw; obtain ⟨g0, g1⟩ := hSw; go_simp <;> with_reducible rfl
        simp only [Act.put, List.getElem_toArray, List.getElem_cons_zero, List.getElem_cons_succ, List.setIfInBounds_toArray, List.set_cons_zero, List.set_cons_succ]
        refine wpAnyH_take (i := 4) (v := ?v5x4) rfl (by kernel_rfl) (by kernel_rfl) (by kernel_rfl) (fun _ _ _ h => h) (Or.inl ⟨by rfl, ?hy5x4⟩) (by assumption) ?rest5x4
        case hy5x4 => intro w hSw; obtain ⟨g0, g1⟩ := hSw; go_simp <;> with_reducible rfl
        simp only [Act.put, List.getElem_toArray, List.getElem_cons_zero, List.getElem_cons_succ, List.setIfInBounds_toArray, List.set_cons_zero, List.set_cons_succ]
        refine wpAnyH_take (i := 5) (v := ?v6x5) rfl (by kernel_rfl) (by kernel_rfl) (by kernel_rfl) (fun _ _ _ h => h) (Or.inl ⟨by rfl, ?hy6x5⟩) (by assumption) ?rest6x5
        case hy6x5 => intro w hSw; obtain ⟨g0, g1⟩ := hSw; go_simp <;> with_reducible rfl
        simp only [Act.put, List.getElem_toArray, List.getElem_cons_zero, List.getElem_cons_succ, List.setIfInBounds_toArray, List.set_cons_zero, List.set_cons_succ]
        refine wpAnyH_take (i := 6) (v := ?v7x6) rfl (by kernel_rfl) (by kernel_rfl) (by kernel_rfl) (fun _ _ _ h => h) (Or.inl ⟨by rfl, ?hy7x6⟩) (by assumption) ?rest7x6
        case hy7x6 => intro w hSw; obtain ⟨g0, g1⟩ := hSw; go_simp <;> with_reducible rfl
        simp only [Act.put, List.getElem_toArray, List.getElem_cons_zero, List.getElem_cons_succ, List.setIfInBounds_toArray, List.set_cons_zero, List.set_cons_succ]
        refine wpAnyH_take (i := 7) (v := (.int .i64 cap)) rfl (by kernel_rfl) (by kernel_rfl) (by kernel_rfl) (fun _ _ _ h => h) (Or.inl ⟨by rfl, ?hy8x7⟩) (by assumption) ?rest8x7
        case hy8x7 => intro w hSw; obtain ⟨g0, g1⟩ := hSw; go_simp <;> with_reducible rfl
        simp only [Act.put, List.getElem_toArray, List.getElem_cons_zero, List.getElem_cons_succ, List.setIfInBounds_toArray, List.set_cons_zero, List.set_cons_succ]
        refine wpAnyH_take (i := 8) (v := (.slice ao 0 0)) rfl (by kernel_rfl) (by kernel_rfl) (by kernel_rfl) (fun _ _ _ h => h) (Or.inl ⟨by rfl, ?hy9x8⟩) (by assumption) ?rest9x8
        case hy9x8 => intro w hSw; obtain ⟨g0, g1⟩ := hSw; go_simp <;> with_reducible rfl
        simp only [Act.put, List.getElem_toArray, List.getElem_cons_zero, List.getElem_cons_succ, List.setIfInBounds_toArray, List.set_cons_zero, List.set_cons_succ]
        refine wpAnyH_ready (rs := [9]) (by kernel_rfl) (by simp) ?_
        refine AllReadyH.cons rfl (fun K hK => ?_) AllReadyH.nil
        go_simp
        refine (unhide HT).mono ?_
        rintro e w1 ⟨x, rfl, hsx, hb1⟩
        refine hK _ _ (unhide HCV _ hb1) ?_
        clear hK hHeld
        intro hHeld
        refine wpAnyH_take (i := 10) (v := ?v10x10) rfl (by kernel_rfl) (by kernel_rfl) (by kernel_rfl) (fun _ _ _ h => h) (Or.inl ⟨by rfl, ?hy10x10⟩) (by assumption) ?rest10x10
        case hy10x10 => intro w hSw; obtain ⟨g0, g1⟩ := hSw; go_simp <;> with_reducible rfl
        simp only [Act.put, List.getElem_toArray, List.getElem_cons_zero, List.getElem_cons_succ, List.setIfInBounds_toArray, List.set_cons_zero, List.set_cons_succ]
        refine wpAnyH_take (i := 11) (v := ?v11x11) rfl (by kernel_rfl) (by kernel_rfl) (by kernel_rfl) (fun _ _ _ h => h) (Or.inl ⟨by rfl, ?hy11x11⟩) (by assumption) ?rest11x11
        case hy11x11 => intro w hSw; obtain ⟨g0, g1⟩ := hSw; go_simp <;> with_reducible rfl
        simp only [Act.put, List.getElem_toArray, List.getElem_cons_zero, List.getElem_cons_succ, List.setIfInBounds_toArray, List.set_cons_zero, List.set_cons_succ]
        refine wpAnyH_take (i := 14) (v := ?v12x14) rfl (by kernel_rfl) (by kernel_rfl) (by kernel_rfl) (fun _ _ _ h => h) (Or.inl ⟨by rfl, ?hy12x14⟩) (by assumption) ?rest12x14
        case hy12x14 => intro w hSw; obtain ⟨g0, g1⟩ := hSw; go_simp <;> with_reducible rfl
        simp only [Act.put, List.getElem_toArray, List.getElem_cons_zero, List.getElem_cons_succ, List.setIfInBounds_toArray, List.set_cons_zero, List.set_cons_succ]
        refine wpAnyH_take (i := 12) (v := ?v13x12) rfl (by kernel_rfl) (by kernel_rfl) (by kernel_rfl) (fun _ _ _ h => h) (Or.inl ⟨by rfl, ?hy13x12⟩) (by assumption) ?rest13x12
        case hy13x12 => intro w hSw; obtain ⟨g0, g1⟩ := hSw; go_simp <;> with_reducible rfl
        simp only [Act.put, List.getElem_toArray, List.getElem_cons_zero, List.getElem_cons_succ, List.setIfInBounds_toArray, List.set_cons_zero, List.set_cons_succ]
        refine wpAnyH_take (i := 15) (v := ?v14x15) rfl (by kernel_rfl) (by kernel_rfl) (by kernel_rfl) (fun _ _ _ h => h) (Or.inl ⟨by rfl, ?hy14x15⟩) (by assumption) ?rest14x15
        case hy14x15 => intro w hSw; obtain ⟨g0, g1⟩ := hSw; go_simp <;> with_reducible rfl
        simp only [Act.put, List.getElem_toArray, List.getElem_cons_zero, List.getElem_cons_succ, List.setIfInBounds_toArray, List.set_cons_zero, List.set_cons_succ]
        refine wpAnyH_take (i := 13) (v := ?v15x13) rfl (by kernel_rfl) (by kernel_rfl) (by kernel_rfl) (fun _ _ _ h => h) (Or.inl ⟨by rfl, ?hy15x13⟩) (by assumption) ?rest15x13
        case hy15x13 => intro w hSw; obtain ⟨g0, g1⟩ := hSw; go_simp <;> with_reducible rfl
        simp only [Act.put, List.getElem_toArray, List.getElem_cons_zero, List.getElem_cons_succ, List.setIfInBounds_toArray, List.set_cons_zero, List.set_cons_succ]
        refine wpAnyH_take (i := 16) (v := ?v16x16) rfl (by kernel_rfl) (by kernel_rfl) (by kernel_rfl) (fun _ _ _ h => h) (Or.inl ⟨by rfl, ?hy16x16⟩) (by assumption) ?rest16x16
        case hy16x16 => intro w hSw; obtain ⟨g0, g1⟩ := hSw; go_simp <;> with_reducible rfl
        simp only [Act.put, List.getElem_toArray, List.getElem_cons_zero, List.getElem_cons_succ, List.setIfInBounds_toArray, List.set_cons_zero, List.set_cons_succ]
        refine wpAnyH_done (by kernel_rfl) ?_ _
        obtain ⟨hk1, hfr1⟩ := unhide HCL w1 hb1
        have hsx2 := hsx.setI hk1 (.int .i64 ((cap + j : Nat) : Int))
        obtain ⟨ax, cx, rfl, _⟩ := id hsx
        have HB1 := hide hb1
        clear hsx hb1
        go_wp2_with (at_builtin; refine wpList_append_sees rfl _ _ 23 rfl w.heap.size 5 i0 (.int .u8 0) 1 Tryz.underlying23 hi hz0 hz1 hz2 rfl _ _ _ rfl (World.ownsRow_nil _ _ _ _) .u8 _ n rfl hsx2 ?d1 ?d2 ?d3 ?_)
        case d1 => unfold maxLen; omega
        case d2 => omega
        case d3 => exact Nat.le_trans (unhide HB1).size (by simp [World.setCell])
        intro v2 w2 ho2 hg2
        have ho3 : w2.ownsRow w.heap.size 5 1 v2 n.length (ints .u8 n) := by simpa using ho2
        have HO := hide ho3
        have HD : Hid (Dr w2 R lo z0 ⟨s.zs.drop j, 0, s.un⟩ ∧ But R w w2) := by
          have := unhide HM w1 j (unhide HB1) hle
          rw [he] at this
          exact ⟨this.grown (World.ownsRow_nil _ (w.heap.size) 5 1) (unhide HRL) hg2, (((unhide HBD).trans (But.of (unhide HB1))).set 1 _).grown (World.ownsRow_nil _ (w.heap.size) 5 1) (Nat.le_refl _) hg2⟩
        clear ho2 hg2 ho3
        go_wp2
        go_ret
        exact ⟨_, rfl, unhide HO, unhide HD⟩
      · rw [if_neg hck] at HT
        go_enter Tryz.func138, Tryz.ntmps138
        go_wp2_with fail
        refine wp_region_held_drew (S := fun x => x.cell? ⟨R, 0, none⟩ = some (.slice ao z0.length cap) ∧ x.cell? ⟨R, 1, none⟩ = some (.int .i64 k)) (by kernel_rfl) ⟨hv, hk⟩ (fun hHeld => ?_)
        refine wpAnyH_take (i := 0) (v := ?v17x0) rfl (by kernel_rfl) (by kernel_rfl) (by kernel_rfl) (fun _ _ _ h => h) (Or.inl ⟨by rfl, ?hy17x0⟩) (by assumption) ?rest17x0
        case hy17x0 => intro w hSw; obtain ⟨g0, g1⟩ := hSw; go_simp <;> with_reducible rfl
        simp only [Act.put, List.getElem_toArray, List.getElem_cons_zero, List.setIfInBounds_toArray, List.set_cons_zero, List.set_cons_succ]
        refine wpAnyH_take (i := 1) (v := ?v18x1) rfl (by kernel_rfl) (by kernel_rfl) (by kernel_rfl) (fun _ _ _ h => h) (Or.inl ⟨by rfl, ?hy18x1⟩) (by assumption) ?rest18x1
        case hy18x1 => intro w hSw; obtain ⟨g0, g1⟩ := hSw; go_simp <;> with_reducible rfl
        simp only [Act.put, List.getElem_toArray, List.getElem_cons_zero, List.getElem_cons_succ, List.setIfInBounds_toArray, List.set_cons_zero, List.set_cons_succ]
        refine wpAnyH_take (i := 2) (v := ?v19x2) rfl (by kernel_rfl) (by kernel_rfl) (by kernel_rfl) (fun _ _ _ h => h) (Or.inl ⟨by rfl, ?hy19x2⟩) (by assumption) ?rest19x2
        case hy19x2 => intro w hSw; obtain ⟨g0, g1⟩ := hSw; go_simp <;> with_reducible rfl
        simp only [Act.put, List.getElem_toArray, List.getElem_cons_zero, List.getElem_cons_succ, List.setIfInBounds_toArray, List.set_cons_zero, List.set_cons_succ]
        refine wpAnyH_take (i := 3) (v := (.slice ao z0.length cap)) rfl (by kernel_rfl) (by kernel_rfl) (by kernel_rfl) (fun _ _ _ h => h) (Or.inl ⟨by rfl, ?hy20x3⟩) (by assumption) ?rest20x3
        case hy20x3 => intro w hSw; obtain ⟨g0, g1⟩ := hSw; go_simp <;> with_reducible rfl
        simp only [Act.put, List.getElem_toArray, List.getElem_cons_zero, List.getElem_cons_succ, List.setIfInBounds_toArray, List.set_cons_zero, List.set_cons_succ]
        refine wpAnyH_take (i := 4) (v := ?v21x4) rfl (by kernel_rfl) (by kernel_rfl) (by kernel_rfl) (fun _ _ _ h => h) (Or.inl ⟨by rfl, ?hy21x4⟩) (by assumption) ?rest21x4
        case hy21x4 => intro w hSw; obtain ⟨g0, g1⟩ := hSw; go_simp <;> with_reducible rfl
        simp only [Act.put, List.getElem_toArray, List.getElem_cons_zero, List.getElem_cons_succ, List.setIfInBounds_toArray, List.set_cons_zero, List.set_cons_succ]
        refine wpAnyH_take (i := 5) (v := ?v22x5) rfl (by kernel_rfl) (by kernel_rfl) (by kernel_rfl) (fun _ _ _ h => h) (Or.inl ⟨by rfl, ?hy22x5⟩) (by assumption) ?rest22x5
        case hy22x5 => intro w hSw; obtain ⟨g0, g1⟩ := hSw; go_simp <;> with_reducible rfl
        simp only [Act.put, List.getElem_toArray, List.getElem_cons_zero, List.getElem_cons_succ, List.setIfInBounds_toArray, List.set_cons_zero, List.set_cons_succ]
        refine wpAnyH_take (i := 6) (v := ?v23x6) rfl (by kernel_rfl) (by kernel_rfl) (by kernel_rfl) (fun _ _ _ h => h) (Or.inl ⟨by rfl, ?hy23x6⟩) (by assumption) ?rest23x6
        case hy23x6 => intro w hSw; obtain ⟨g0, g1⟩ := hSw; go_simp <;> with_reducible rfl
        simp only [Act.put, List.getElem_toArray, List.getElem_cons_zero, List.getElem_cons_succ, List.setIfInBounds_toArray, List.set_cons_zero, List.set_cons_succ]
        refine wpAnyH_take (i := 7) (v := (.int .i64 k)) rfl (by kernel_rfl) (by kernel_rfl) (by kernel_rfl) (fun _ _ _ h => h) (Or.inl ⟨by rfl, ?hy24x7⟩) (by assumption) ?rest24x7
        case hy24x7 => intro w hSw; obtain ⟨g0, g1⟩ := hSw; go_simp <;> with_reducible rfl
        simp only [Act.put, List.getElem_toArray, List.getElem_cons_zero, List.getElem_cons_succ, List.setIfInBounds_toArray, List.set_cons_zero, List.set_cons_succ]
        refine wpAnyH_take (i := 8) (v := (.slice (Option.map (fun x => x.add k) ao) (z0.length - k) (cap - k))) rfl (by kernel_rfl) (by kernel_rfl) (by kernel_rfl) (fun _ _ _ h => h) (Or.inl ⟨by rfl, ?hy25x8⟩) (by assumption) ?rest25x8
        case hy25x8 => intro w hSw; obtain ⟨g0, g1⟩ := hSw; go_simp <;> with_reducible rfl
        simp only [Act.put, List.getElem_toArray, List.getElem_cons_zero, List.getElem_cons_succ, List.setIfInBounds_toArray, List.set_cons_zero, List.set_cons_succ]
        refine wpAnyH_ready (rs := [9]) (by kernel_rfl) (by simp) ?_
        refine AllReadyH.cons rfl (fun K hK => ?_) AllReadyH.nil
        go_simp
        refine (unhide HT).mono ?_
        rintro e w1 ⟨x, rfl, hsx, hb1⟩
        refine hK _ _ (unhide HCV _ hb1) ?_
        clear hK hHeld
        intro hHeld
        refine wpAnyH_take (i := 10) (v := ?v26x10) rfl (by kernel_rfl) (by kernel_rfl) (by kernel_rfl) (fun _ _ _ h => h) (Or.inl ⟨by rfl, ?hy26x10⟩) (by assumption) ?rest26x10
        case hy26x10 => intro w hSw; obtain ⟨g0, g1⟩ := hSw; go_simp <;> with_reducible rfl
        simp only [Act.put, List.getElem_toArray, List.getElem_cons_zero, List.getElem_cons_succ, List.setIfInBounds_toArray, List.set_cons_zero, List.set_cons_succ]
        refine wpAnyH_take (i := 11) (v := ?v27x11) rfl (by kernel_rfl) (by kernel_rfl) (by kernel_rfl) (fun _ _ _ h => h) (Or.inl ⟨by rfl, ?hy27x11⟩) (by assumption) ?rest27x11
        case hy27x11 => intro w hSw; obtain ⟨g0, g1⟩ := hSw; go_simp <;> with_reducible rfl
        simp only [Act.put, List.getElem_toArray, List.getElem_cons_zero, List.getElem_cons_succ, List.setIfInBounds_toArray, List.set_cons_zero, List.set_cons_succ]
        refine wpAnyH_take (i := 14) (v := ?v28x14) rfl (by kernel_rfl) (by kernel_rfl) (by kernel_rfl) (fun _ _ _ h => h) (Or.inl ⟨by rfl, ?hy28x14⟩) (by assumption) ?rest28x14
        case hy28x14 => intro w hSw; obtain ⟨g0, g1⟩ := hSw; go_simp <;> with_reducible rfl
        simp only [Act.put, List.getElem_toArray, List.getElem_cons_zero, List.getElem_cons_succ, List.setIfInBounds_toArray, List.set_cons_zero, List.set_cons_succ]
        refine wpAnyH_take (i := 12) (v := ?v29x12) rfl (by kernel_rfl) (by kernel_rfl) (by kernel_rfl) (fun _ _ _ h => h) (Or.inl ⟨by rfl, ?hy29x12⟩) (by assumption) ?rest29x12
        case hy29x12 => intro w hSw; obtain ⟨g0, g1⟩ := hSw; go_simp <;> with_reducible rfl
        simp only [Act.put, List.getElem_toArray, List.getElem_cons_zero, List.getElem_cons_succ, List.setIfInBounds_toArray, List.set_cons_zero, List.set_cons_succ]
        refine wpAnyH_take (i := 15) (v := ?v30x15) rfl (by kernel_rfl) (by kernel_rfl) (by kernel_rfl) (fun _ _ _ h => h) (Or.inl ⟨by rfl, ?hy30x15⟩) (by assumption) ?rest30x15
        case hy30x15 => intro w hSw; obtain ⟨g0, g1⟩ := hSw; go_simp <;> with_reducible rfl
        simp only [Act.put, List.getElem_toArray, List.getElem_cons_zero, List.getElem_cons_succ, List.setIfInBounds_toArray, List.set_cons_zero, List.set_cons_succ]
        refine wpAnyH_take (i := 13) (v := ?v31x13) rfl (by kernel_rfl) (by kernel_rfl) (by kernel_rfl) (fun _ _ _ h => h) (Or.inl ⟨by rfl, ?hy31x13⟩) (by assumption) ?rest31x13
        case hy31x13 => intro w hSw; obtain ⟨g0, g1⟩ := hSw; go_simp <;> with_reducible rfl
        simp only [Act.put, List.getElem_toArray, List.getElem_cons_zero, List.getElem_cons_succ, List.setIfInBounds_toArray, List.set_cons_zero, List.set_cons_succ]
        refine wpAnyH_take (i := 16) (v := ?v32x16) rfl (by kernel_rfl) (by kernel_rfl) (by kernel_rfl) (fun _ _ _ h => h) (Or.inl ⟨by rfl, ?hy32x16⟩) (by assumption) ?rest32x16
        case hy32x16 => intro w hSw; obtain ⟨g0, g1⟩ := hSw; go_simp <;> with_reducible rfl
        simp only [Act.put, List.getElem_toArray, List.getElem_cons_zero, List.getElem_cons_succ, List.setIfInBounds_toArray, List.set_cons_zero, List.set_cons_succ]
        refine wpAnyH_done (by kernel_rfl) ?_ _
        obtain ⟨hk1, hfr1⟩ := unhide HCL w1 hb1
        have hsx2 := hsx.setI hk1 (.int .i64 ((k + j : Nat) : Int))
        obtain ⟨ax, cx, rfl, _⟩ := id hsx
        have HB1 := hide hb1
        clear hsx hb1
        go_wp2_with (at_builtin; refine wpList_append_sees rfl _ _ 23 rfl w.heap.size 5 i0 (.int .u8 0) 1 Tryz.underlying23 hi hz0 hz1 hz2 rfl _ _ _ rfl (World.ownsRow_nil _ _ _ _) .u8 _ n rfl hsx2 ?d1 ?d2 ?d3 ?_)
        case d1 => unfold maxLen; omega
        case d2 => omega
        case d3 => exact Nat.le_trans (unhide HB1).size (by simp [World.setCell])
        intro v2 w2 ho2 hg2
        have ho3 : w2.ownsRow w.heap.size 5 1 v2 n.length (ints .u8 n) := by simpa using ho2
        have HO := hide ho3
        have HD : Hid (Dr w2 R lo z0 ⟨s.zs.drop j, 0, s.un⟩ ∧ But R w w2) := by
          have := unhide HM w1 j (unhide HB1) hle
          rw [he] at this
          exact ⟨this.grown (World.ownsRow_nil _ (w.heap.size) 5 1) (unhide HRL) hg2, (((unhide HBD).trans (But.of (unhide HB1))).set 1 _).grown (World.ownsRow_nil _ (w.heap.size) 5 1) (Nat.le_refl _) hg2⟩
        clear ho2 hg2 ho3
        go_wp2
        go_ret
        exact ⟨_, rfl, unhide HO, unhide HD⟩
    · obtain ⟨rfl, rfl⟩ := hno hee
      have hbe : (e != 0) = true := bne_iff_ne.2 hee
      by_cases hck : cap = k
      · subst hck
        rw [if_pos rfl] at HT
        have hy0 : z0.length - cap = 0 := by omega
        have hy1 : cap - cap = 0 := by omega
        rw [hy0, hy1] at HT
        have hle2 : z0.length = cap := by omega
        go_enter Tryz.func138, Tryz.ntmps138
        go_wp2_with fail
        refine wp_region_held_drew (S := fun x => x.cell? ⟨R, 0, none⟩ = some (.slice ao z0.length cap) ∧ x.cell? ⟨R, 1, none⟩ = some (.int .i64 cap)) (by kernel_rfl) ⟨hv, hk⟩ (fun hHeld => ?_)
        refine wpAnyH_take (i := 0) (v := ?v33x0) rfl (by kernel_rfl) (by kernel_rfl) (by kernel_rfl) (fun _ _ _ h => h) (Or.inl ⟨by rfl, ?hy33x0⟩) (by assumption) ?rest33x0
        case hy33x0 => intro w hSw; obtain ⟨g0, g1⟩ := hSw; go_simp <;> with_reducible rfl
        simp only [Act.put, List.getElem_toArray, List.getElem_cons_zero, List.setIfInBounds_toArray, List.set_cons_zero, List.set_cons_succ]
        refine wpAnyH_take (i := 1) (v := ?v34x1) rfl (by kernel_rfl) (by kernel_rfl) (by kernel_rfl) (fun _ _ _ h => h) (Or.inl ⟨by rfl, ?hy34x1⟩) (by assumption) ?rest34x1
        case hy34x1 => intro w hSw; obtain ⟨g0, g1⟩ := hSw; go_simp <;> with_reducible rfl
        simp only [Act.put, List.getElem_toArray, List.getElem_cons_zero, List.getElem_cons_succ, List.setIfInBounds_toArray, List.set_cons_zero, List.set_cons_succ]
        refine wpAnyH_take (i := 2) (v := ?v35x2) rfl (by kernel_rfl) (by kernel_rfl) (by kernel_rfl) (fun _ _ _ h => h) (Or.inl ⟨by rfl, ?hy35x2⟩) (by assumption) ?rest35x2
        case hy35x2 => intro w hSw; obtain ⟨g0, g1⟩ := hSw; go_simp <;> with_reducible rfl
        simp only [Act.put, List.getElem_toArray, List.getElem_cons_zero, List.getElem_cons_succ, List.setIfInBounds_toArray, List.set_cons_zero, List.set_cons_succ]
        refine wpAnyH_take (i := 3) (v := (.slice ao z0.length cap)) rfl (by kernel_rfl) (by kernel_rfl) (by kernel_rfl) (fun _ _ _ h => h) (Or.inl ⟨by rfl, ?hy36x3⟩) (by assumption) ?rest36x3
        case hy36x3 => intro w hSw; obtain ⟨g0, g1⟩ := hSw; go_simp <;> with_reducible rfl
        simp only [Act.put, List.getElem_toArray, List.getElem_cons_zero, List.getElem_cons_succ, List.setIfInBounds_toArray, List.set_cons_zero, List.set_cons_succ]
        refine wpAnyH_take (i := 4) (v := ?v37x4) rfl (by kernel_rfl) (by kernel_rfl) (by kernel_rfl) (fun _ _ _ h => h) (Or.inl ⟨by rfl, ?hy37x4⟩) (by assumption) ?rest37x4
        case hy37x4 => intro w hSw; obtain ⟨g0, g1⟩ := hSw; go_simp <;> with_reducible rfl
        simp only [Act.put, List.getElem_toArray, List.getElem_cons_zero, List.getElem_cons_succ, List.setIfInBounds_toArray, List.set_cons_zero, List.set_cons_succ]
        refine wpAnyH_take (i := 5) (v := ?v38x5) rfl (by kernel_rfl) (by kernel_rfl) (by kernel_rfl) (fun _ _ _ h => h) (Or.inl ⟨by rfl, ?hy38x5⟩) (by assumption) ?rest38x5
        case hy38x5 => intro w hSw; obtain ⟨g0, g1⟩ := hSw; go_simp <;> with_reducible rfl
        simp only [Act.put, List.getElem_toArray, List.getElem_cons_zero, List.getElem_cons_succ, List.setIfInBounds_toArray, List.set_cons_zero, List.set_cons_succ]
        refine wpAnyH_take (i := 6) (v := ?v39x6) rfl (by kernel_rfl) (by kernel_rfl) (by kernel_rfl) (fun _ _ _ h => h) (Or.inl ⟨by rfl, ?hy39x6⟩) (by assumption) ?rest39x6
        case hy39x6 => intro w hSw; obtain ⟨g0, g1⟩ := hSw; go_simp <;> with_reducible rfl
        simp only [Act.put, List.getElem_toArray, List.getElem_cons_zero, List.getElem_cons_succ, List.setIfInBounds_toArray, List.set_cons_zero, List.set_cons_succ]
        refine wpAnyH_take (i := 7) (v := (.int .i64 cap)) rfl (by kernel_rfl) (by kernel_rfl) (by kernel_rfl) (fun _ _ _ h => h) (Or.inl ⟨by rfl, ?hy40x7⟩) (by assumption) ?rest40x7
        case hy40x7 => intro w hSw; obtain ⟨g0, g1⟩ := hSw; go_simp <;> with_reducible rfl
        simp only [Act.put, List.getElem_toArray, List.getElem_cons_zero, List.getElem_cons_succ, List.setIfInBounds_toArray, List.set_cons_zero, List.set_cons_succ]
        refine wpAnyH_take (i := 8) (v := (.slice ao 0 0)) rfl (by kernel_rfl) (by kernel_rfl) (by kernel_rfl) (fun _ _ _ h => h) (Or.inl ⟨by rfl, ?hy41x8⟩) (by assumption) ?rest41x8
        case hy41x8 => intro w hSw; obtain ⟨g0, g1⟩ := hSw; go_simp <;> with_reducible rfl
        simp only [Act.put, List.getElem_toArray, List.getElem_cons_zero, List.getElem_cons_succ, List.setIfInBounds_toArray, List.set_cons_zero, List.set_cons_succ]
        refine wpAnyH_ready (rs := [9]) (by kernel_rfl) (by simp) ?_
        refine AllReadyH.cons rfl (fun K hK => ?_) AllReadyH.nil
        go_simp
        refine (unhide HT).mono ?_
        rintro e w1 ⟨x, rfl, hsx, hb1⟩
        refine hK _ _ (unhide HCV _ hb1) ?_
        clear hK hHeld
        intro hHeld
        refine wpAnyH_take (i := 10) (v := ?v42x10) rfl (by kernel_rfl) (by kernel_rfl) (by kernel_rfl) (fun _ _ _ h => h) (Or.inl ⟨by rfl, ?hy42x10⟩) (by assumption) ?rest42x10
        case hy42x10 => intro w hSw; obtain ⟨g0, g1⟩ := hSw; go_simp <;> with_reducible rfl
        simp only [Act.put, List.getElem_toArray, List.getElem_cons_zero, List.getElem_cons_succ, List.setIfInBounds_toArray, List.set_cons_zero, List.set_cons_succ]
        refine wpAnyH_take (i := 11) (v := ?v43x11) rfl (by kernel_rfl) (by kernel_rfl) (by kernel_rfl) (fun _ _ _ h => h) (Or.inl ⟨by rfl, ?hy43x11⟩) (by assumption) ?rest43x11
        case hy43x11 => intro w hSw; obtain ⟨g0, g1⟩ := hSw; go_simp <;> with_reducible rfl
        simp only [Act.put, List.getElem_toArray, List.getElem_cons_zero, List.getElem_cons_succ, List.setIfInBounds_toArray, List.set_cons_zero, List.set_cons_succ]
        refine wpAnyH_take (i := 14) (v := ?v44x14) rfl (by kernel_rfl) (by kernel_rfl) (by kernel_rfl) (fun _ _ _ h => h) (Or.inl ⟨by rfl, ?hy44x14⟩) (by assumption) ?rest44x14
        case hy44x14 => intro w hSw; obtain ⟨g0, g1⟩ := hSw; go_simp <;> with_reducible rfl
        simp only [Act.put, List.getElem_toArray, List.getElem_cons_zero, List.getElem_cons_succ, List.setIfInBounds_toArray, List.set_cons_zero, List.set_cons_succ]
        refine wpAnyH_take (i := 12) (v := ?v45x12) rfl (by kernel_rfl) (by kernel_rfl) (by kernel_rfl) (fun _ _ _ h => h) (Or.inl ⟨by rfl, ?hy45x12⟩) (by assumption) ?rest45x12
        case hy45x12 => intro w hSw; obtain ⟨g0, g1⟩ := hSw; go_simp <;> with_reducible rfl
        simp only [Act.put, List.getElem_toArray, List.getElem_cons_zero, List.getElem_cons_succ, List.setIfInBounds_toArray, List.set_cons_zero, List.set_cons_succ]
        refine wpAnyH_take (i := 15) (v := ?v46x15) rfl (by kernel_rfl) (by kernel_rfl) (by kernel_rfl) (fun _ _ _ h => h) (Or.inl ⟨by rfl, ?hy46x15⟩) (by assumption) ?rest46x15
        case hy46x15 => intro w hSw; obtain ⟨g0, g1⟩ := hSw; go_simp <;> with_reducible rfl
        simp only [Act.put, List.getElem_toArray, List.getElem_cons_zero, List.getElem_cons_succ, List.setIfInBounds_toArray, List.set_cons_zero, List.set_cons_succ]
        refine wpAnyH_take (i := 13) (v := ?v47x13) rfl (by kernel_rfl) (by kernel_rfl) (by kernel_rfl) (fun _ _ _ h => h) (Or.inl ⟨by rfl, ?hy47x13⟩) (by assumption) ?rest47x13
        case hy47x13 => intro w hSw; obtain ⟨g0, g1⟩ := hSw; go_simp <;> with_reducible rfl
        simp only [Act.put, List.getElem_toArray, List.getElem_cons_zero, List.getElem_cons_succ, List.setIfInBounds_toArray, List.set_cons_zero, List.set_cons_succ]
        refine wpAnyH_take (i := 16) (v := ?v48x16) rfl (by kernel_rfl) (by kernel_rfl) (by kernel_rfl) (fun _ _ _ h => h) (Or.inl ⟨by rfl, ?hy48x16⟩) (by assumption) ?rest48x16
        case hy48x16 => intro w hSw; obtain ⟨g0, g1⟩ := hSw; go_simp <;> with_reducible rfl
        simp only [Act.put, List.getElem_toArray, List.getElem_cons_zero, List.getElem_cons_succ, List.setIfInBounds_toArray, List.set_cons_zero, List.set_cons_succ]
        refine wpAnyH_done (by kernel_rfl) ?_ _
        obtain ⟨ax, cx, rfl, _⟩ := id hsx
        have HF1 := hide (unhide HF w1 e hb1)
        have HD : Hid (Dr (w1.setCell ⟨R, 2, none⟩ (.int .i64 e)) R lo z0 ⟨s.zs.drop 0, e, s.un⟩ ∧ But R w (w1.setCell ⟨R, 2, none⟩ (.int .i64 e))) := ⟨unhide HE w1 e hb1, ((unhide HBD).trans (But.of hb1)).set 2 _⟩
        clear hsx hb1
        go_wp2_with fail
        refine (unhide HF1).mono ?_
        rintro er w2 ⟨rfl, rfl⟩
        go_wp2_with fail
        go_ret
        exact ⟨_, rfl, World.ownsRow_nil _ _ _ _, unhide HD⟩
      · rw [if_neg hck] at HT
        go_enter Tryz.func138, Tryz.ntmps138
        go_wp2_with fail
        refine wp_region_held_drew (S := fun x => x.cell? ⟨R, 0, none⟩ = some (.slice ao z0.length cap) ∧ x.cell? ⟨R, 1, none⟩ = some (.int .i64 k)) (by kernel_rfl) ⟨hv, hk⟩ (fun hHeld => ?_)
        refine wpAnyH_take (i := 0) (v := ?v49x0) rfl (by kernel_rfl) (by kernel_rfl) (by kernel_rfl) (fun _ _ _ h => h) (Or.inl ⟨by rfl, ?hy49x0⟩) (by assumption) ?rest49x0
        case hy49x0 => intro w hSw; obtain ⟨g0, g1⟩ := hSw; go_simp <;> with_reducible rfl
        simp only [Act.put, List.getElem_toArray, List.getElem_cons_zero, List.setIfInBounds_toArray, List.set_cons_zero, List.set_cons_succ]
        refine wpAnyH_take (i := 1) (v := ?v50x1) rfl (by kernel_rfl) (by kernel_rfl) (by kernel_rfl) (fun _ _ _ h => h) (Or.inl ⟨by rfl, ?hy50x1⟩) (by assumption) ?rest50x1
        case hy50x1 => intro w hSw; obtain ⟨g0, g1⟩ := hSw; go_simp <;> with_reducible rfl
        simp only [Act.put, List.getElem_toArray, List.getElem_cons_zero, List.getElem_cons_succ, List.setIfInBounds_toArray, List.set_cons_zero, List.set_cons_succ]
        refine wpAnyH_take (i := 2) (v := ?v51x2) rfl (by kernel_rfl) (by kernel_rfl) (by kernel_rfl) (fun _ _ _ h => h) (Or.inl ⟨by rfl, ?hy51x2⟩) (by assumption) ?rest51x2
        case hy51x2 => intro w hSw; obtain ⟨g0, g1⟩ := hSw; go_simp <;> with_reducible rfl
        simp only [Act.put, List.getElem_toArray, List.getElem_cons_zero, List.getElem_cons_succ, List.setIfInBounds_toArray, List.set_cons_zero, List.set_cons_succ]
        refine wpAnyH_take (i := 3) (v := (.slice ao z0.length cap)) rfl (by kernel_rfl) (by kernel_rfl) (by kernel_rfl) (fun _ _ _ h => h) (Or.inl ⟨by rfl, ?hy52x3⟩) (by assumption) ?rest52x3
        case hy52x3 => intro w hSw; obtain ⟨g0, g1⟩ := hSw; go_simp <;> with_reducible rfl
        simp only [Act.put, List.getElem_toArray, List.getElem_cons_zero, List.getElem_cons_succ, List.setIfInBounds_toArray, List.set_cons_zero, List.set_cons_succ]
        refine wpAnyH_take (i := 4) (v := ?v53x4) rfl (by kernel_rfl) (by kernel_rfl) (by kernel_rfl) (fun _ _ _ h => h) (Or.inl ⟨by rfl, ?hy53x4⟩) (by assumption) ?rest53x4
        case hy53x4 => intro w hSw; obtain ⟨g0, g1⟩ := hSw; go_simp <;> with_reducible rfl
        simp only [Act.put, List.getElem_toArray, List.getElem_cons_zero, List.getElem_cons_succ, List.setIfInBounds_toArray, List.set_cons_zero, List.set_cons_succ]
        refine wpAnyH_take (i := 5) (v := ?v54x5) rfl (by kernel_rfl) (by kernel_rfl) (by kernel_rfl) (fun _ _ _ h => h) (Or.inl ⟨by rfl, ?hy54x5⟩) (by assumption) ?rest54x5
        case hy54x5 => intro w hSw; obtain ⟨g0, g1⟩ := hSw; go_simp <;> with_reducible rfl
        simp only [Act.put, List.getElem_toArray, List.getElem_cons_zero, List.getElem_cons_succ, List.setIfInBounds_toArray, List.set_cons_zero, List.set_cons_succ]
        refine wpAnyH_take (i := 6) (v := ?v55x6) rfl (by kernel_rfl) (by kernel_rfl) (by kernel_rfl) (fun _ _ _ h => h) (Or.inl ⟨by rfl, ?hy55x6⟩) (by assumption) ?rest55x6
        case hy55x6 => intro w hSw; obtain ⟨g0, g1⟩ := hSw; go_simp <;> with_reducible rfl
        simp only [Act.put, List.getElem_toArray, List.getElem_cons_zero, List.getElem_cons_succ, List.setIfInBounds_toArray, List.set_cons_zero, List.set_cons_succ]
        refine wpAnyH_take (i := 7) (v := (.int .i64 k)) rfl (by kernel_rfl) (by kernel_rfl) (by kernel_rfl) (fun _ _ _ h => h) (Or.inl ⟨by rfl, ?hy56x7⟩) (by assumption) ?rest56x7
        case hy56x7 => intro w hSw; obtain ⟨g0, g1⟩ := hSw; go_simp <;> with_reducible rfl
        simp only [Act.put, List.getElem_toArray, List.getElem_cons_zero, List.getElem_cons_succ, List.setIfInBounds_toArray, List.set_cons_zero, List.set_cons_succ]
        refine wpAnyH_take (i := 8) (v := (.slice (Option.map (fun x => x.add k) ao) (z0.length - k) (cap - k))) rfl (by kernel_rfl) (by kernel_rfl) (by kernel_rfl) (fun _ _ _ h => h) (Or.inl ⟨by rfl, ?hy57x8⟩) (by assumption) ?rest57x8
        case hy57x8 => intro w hSw; obtain ⟨g0, g1⟩ := hSw; go_simp <;> with_reducible rfl
        simp only [Act.put, List.getElem_toArray, List.getElem_cons_zero, List.getElem_cons_succ, List.setIfInBounds_toArray, List.set_cons_zero, List.set_cons_succ]
        refine wpAnyH_ready (rs := [9]) (by kernel_rfl) (by simp) ?_
        refine AllReadyH.cons rfl (fun K hK => ?_) AllReadyH.nil
        go_simp
        refine (unhide HT).mono ?_
        rintro e w1 ⟨x, rfl, hsx, hb1⟩
        refine hK _ _ (unhide HCV _ hb1) ?_
        clear hK hHeld
        intro hHeld
        refine wpAnyH_take (i := 10) (v := ?v58x10) rfl (by kernel_rfl) (by kernel_rfl) (by kernel_rfl) (fun _ _ _ h => h) (Or.inl ⟨by rfl, ?hy58x10⟩) (by assumption) ?rest58x10
        case hy58x10 => intro w hSw; obtain ⟨g0, g1⟩ := hSw; go_simp <;> with_reducible rfl
        simp only [Act.put, List.getElem_toArray, List.getElem_cons_zero, List.getElem_cons_succ, List.setIfInBounds_toArray, List.set_cons_zero, List.set_cons_succ]
        refine wpAnyH_take (i := 11) (v := ?v59x11) rfl (by kernel_rfl) (by kernel_rfl) (by kernel_rfl) (fun _ _ _ h => h) (Or.inl ⟨by rfl, ?hy59x11⟩) (by assumption) ?rest59x11
        case hy59x11 => intro w hSw; obtain ⟨g0, g1⟩ := hSw; go_simp <;> with_reducible rfl
        simp only [Act.put, List.getElem_toArray, List.getElem_cons_zero, List.getElem_cons_succ, List.setIfInBounds_toArray, List.set_cons_zero, List.set_cons_succ]
        refine wpAnyH_take (i := 14) (v := ?v60x14) rfl (by kernel_rfl) (by kernel_rfl) (by kernel_rfl) (fun _ _ _ h => h) (Or.inl ⟨by rfl, ?hy60x14⟩) (by assumption) ?rest60x14
        case hy60x14 => intro w hSw; obtain ⟨g0, g1⟩ := hSw; go_simp <;> with_reducible rfl
        simp only [Act.put, List.getElem_toArray, List.getElem_cons_zero, List.getElem_cons_succ, List.setIfInBounds_toArray, List.set_cons_zero, List.set_cons_succ]
        refine wpAnyH_take (i := 12) (v := ?v61x12) rfl (by kernel_rfl) (by kernel_rfl) (by kernel_rfl) (fun _ _ _ h => h) (Or.inl ⟨by rfl, ?hy61x12⟩) (by assumption) ?rest61x12
        case hy61x12 => intro w hSw; obtain ⟨g0, g1⟩ := hSw; go_simp <;> with_reducible rfl
        simp only [Act.put, List.getElem_toArray, List.getElem_cons_zero, List.getElem_cons_succ, List.setIfInBounds_toArray, List.set_cons_zero, List.set_cons_succ]
        refine wpAnyH_take (i := 15) (v := ?v62x15) rfl (by kernel_rfl) (by kernel_rfl) (by kernel_rfl) (fun _ _ _ h => h) (Or.inl ⟨by rfl, ?hy62x15⟩) (by assumption) ?rest62x15
        case hy62x15 => intro w hSw; obtain ⟨g0, g1⟩ := hSw; go_simp <;> with_reducible rfl
        simp only [Act.put, List.getElem_toArray, List.getElem_cons_zero, List.getElem_cons_succ, List.setIfInBounds_toArray, List.set_cons_zero, List.set_cons_succ]
        refine wpAnyH_take (i := 13) (v := ?v63x13) rfl (by kernel_rfl) (by kernel_rfl) (by kernel_rfl) (fun _ _ _ h => h) (Or.inl ⟨by rfl, ?hy63x13⟩) (by assumption) ?rest63x13
        case hy63x13 => intro w hSw; obtain ⟨g0, g1⟩ := hSw; go_simp <;> with_reducible rfl
        simp only [Act.put, List.getElem_toArray, List.getElem_cons_zero, List.getElem_cons_succ, List.setIfInBounds_toArray, List.set_cons_zero, List.set_cons_succ]
        refine wpAnyH_take (i := 16) (v := ?v64x16) rfl (by kernel_rfl) (by kernel_rfl) (by kernel_rfl) (fun _ _ _ h => h) (Or.inl ⟨by rfl, ?hy64x16⟩) (by assumption) ?rest64x16
        case hy64x16 => intro w hSw; obtain ⟨g0, g1⟩ := hSw; go_simp <;> with_reducible rfl
        simp only [Act.put, List.getElem_toArray, List.getElem_cons_zero, List.getElem_cons_succ, List.setIfInBounds_toArray, List.set_cons_zero, List.set_cons_succ]
        refine wpAnyH_done (by kernel_rfl) ?_ _
        obtain ⟨ax, cx, rfl, _⟩ := id hsx
        have HF1 := hide (unhide HF w1 e hb1)
        have HD : Hid (Dr (w1.setCell ⟨R, 2, none⟩ (.int .i64 e)) R lo z0 ⟨s.zs.drop 0, e, s.un⟩ ∧ But R w (w1.setCell ⟨R, 2, none⟩ (.int .i64 e))) := ⟨unhide HE w1 e hb1, ((unhide HBD).trans (But.of hb1)).set 2 _⟩
        clear hsx hb1
        go_wp2_with fail
        refine (unhide HF1).mono ?_
        rintro er w2 ⟨rfl, rfl⟩
        go_wp2_with fail
        go_ret
        exact ⟨_, rfl, World.ownsRow_nil _ _ _ _, unhide HD⟩
  · have hnum : s.blob = ([], s) := by unfold RS.blob; rw [if_neg he]
    rw [hnum]
    have h1 := h.ce
    have hbe : (s.er != 0) = true := bne_iff_ne.2 he
    have HH := hide h
    clear h
    go_enter Tryz.func138, Tryz.ntmps138
    go_wp2_with fail
    go_ret
    exact ⟨_, rfl, World.ownsRow_nil _ _ _ _, unhide HH, But.refl _ _⟩

end Go.Proofs.YtggllgimlfchhaaGreat
