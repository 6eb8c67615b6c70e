/- Record: what the document reads is what the program reads. -/
import Derived.Test.YtggllgimlfchhaaGreatFD
import Derived.Test.YtggllgimlfchhaaGreatKG
namespace Go.Proofs.YtggllgimlfchhaaGreat
open Go.RowKit
set_option maxRecDepth 100000

theorem clamp_small {n : Int} (h : -2147483648 ≤ n ∧ n ≤ 2147483648) : clamp n = n := by unfold clamp; rw [if_neg (by omega)]
theorem clamp_rep (n : Int) : isRep (clamp n) = isRep n := by
  unfold isRep
  rw [Bool.eq_iff_iff]
  simp only [decide_eq_true_eq]
  unfold clamp
  split <;> omega
theorem clamp_eq {n k : Int} (hk : -2147483648 < k ∧ k ≤ 2147483648) : clamp n = k ↔ n = k := by unfold clamp; split <;> omega
theorem rep_id {n : Int} (h : isRep n = true) : clamp n = n := by
  unfold isRep at h
  simp only [decide_eq_true_eq] at h
  exact clamp_small (by omega)

def nE (e : EntD) : EntD := ⟨e.kind, clamp e.frm, e.num, e.txns⟩
theorem nE_zero (e : EntD) : nE e = dE ↔ e = dE := by
  obtain ⟨k, f, n, l⟩ := e
  have := clamp_eq (n := f) (k := 0) (by omega)
  simp only [nE, dE, EntD.mk.injEq, this]
theorem nE_may (e : EntD) : mayE (nE e) = mayE e := by
  unfold mayE
  have hk : (nE e).kind = e.kind := rfl
  rw [hk]
  by_cases h0 : e.kind = 0
  · rw [if_pos h0, if_pos h0, Bool.eq_iff_iff]
    simp only [decide_eq_true_eq]
    exact nE_zero e
  · rw [if_neg h0, if_neg h0]
    have hf : isRep (nE e).frm = isRep e.frm := clamp_rep _
    rw [hf]
    rfl
theorem nE_id {e : EntD} (h : mayE e = true) : nE e = e := by
  unfold mayE at h
  by_cases h0 : e.kind = 0
  · rw [if_pos h0] at h
    simp only [decide_eq_true_eq] at h
    rw [h]
    exact (nE_zero dE).2 rfl
  · rw [if_neg h0] at h
    by_cases h1 : e.kind = 1
    · rw [if_pos h1] at h
      simp only [Bool.and_eq_true] at h
      unfold nE
      rw [rep_id h.1.1.1.1]
    · rw [if_neg h1] at h
      cases h
def nTm (t : TmD) : TmD := ⟨t.term, nE t.ent⟩
theorem nTm_may (t : TmD) : mayTm (nTm t) = mayTm t := by unfold mayTm nTm; rw [nE_may]
theorem nTm_id {t : TmD} (h : mayTm t = true) : nTm t = t := by
  simp only [mayTm, Bool.and_eq_true] at h
  unfold nTm
  rw [nE_id h.2]
def nP (p : PtD) : PtD := ⟨p.slot, clamp p.idx, clamp p.many, p.data⟩
theorem nP_zero (p : PtD) : nP p = dP ↔ p = dP := by
  obtain ⟨a, b, c, l⟩ := p
  have h1 := clamp_eq (n := b) (k := 0) (by omega)
  have h2 := clamp_eq (n := c) (k := 0) (by omega)
  simp only [nP, dP, PtD.mk.injEq, h1, h2]
theorem nP_may (p : PtD) : mayP (nP p) = mayP p := by
  obtain ⟨a, b, c, l⟩ := p
  unfold mayP nP
  rw [Bool.eq_iff_iff]
  simp only [Bool.and_eq_true, decide_eq_true_eq]
  unfold clamp
  constructor
  · rintro ⟨⟨⟨⟨⟨h1, h2⟩, h3⟩, h4⟩, h5⟩, h6⟩
    refine ⟨⟨⟨⟨⟨h1, ?_⟩, ?_⟩, ?_⟩, ?_⟩, h6⟩ <;> split at h2 <;> split at h4 <;> omega
  · rintro ⟨⟨⟨⟨⟨h1, h2⟩, h3⟩, h4⟩, h5⟩, h6⟩
    rw [if_neg (by omega), if_neg (by omega)]
    exact ⟨⟨⟨⟨⟨h1, h2⟩, h3⟩, h4⟩, h5⟩, h6⟩
theorem nP_id {p : PtD} (h : mayP p = true) : nP p = p := by
  unfold mayP at h
  simp only [Bool.and_eq_true, decide_eq_true_eq] at h
  unfold nP
  rw [clamp_small (n := p.idx) (by omega), clamp_small (n := p.many) (by omega)]
def nM (m : MsgD) : MsgD := ⟨m.kind, clamp m.frm, clamp m.to, m.term, m.slot, m.last, m.commit, m.yes, m.list.map nTm, nE m.ent, nP m.part⟩
theorem nM_plain (m : MsgD) : nM m = plainM (nM m) ↔ m = plainM m := by
  obtain ⟨k, f, t, a, b, c, d, y, l, e, p⟩ := m
  have he := nE_zero e
  have hp := nP_zero p
  unfold plainM nM
  simp only
  by_cases h1 : k = 1
  · subst h1; simp [he, hp]
  by_cases h2 : k = 2
  · subst h2; simp [he, hp]
  by_cases h3 : k = 3
  · subst h3; simp [he, hp]
  by_cases h4 : k = 4
  · subst h4; simp [he, hp]
  by_cases h5 : k = 5
  · subst h5; simp [he]
  by_cases h6 : k = 6
  · subst h6; simp [hp]
  simp [h1, h2, h3, h4, h5, h6, he, hp]
theorem nM_tail (m : MsgD) : tailM (nM m) = tailM m := by
  unfold tailM
  have hk : (nM m).kind = m.kind := rfl
  have hl : (nM m).list = m.list.map nTm := rfl
  have he : mayE (nM m).ent = mayE m.ent := nE_may _
  have hp : mayP (nM m).part = mayP m.part := nP_may _
  rw [hk, hl, he, hp, List.length_map, List.all_map]
  have : (mayTm ∘ nTm) = mayTm := funext fun t => nTm_may t
  rw [this]
theorem nM_may (m : MsgD) : mayMsg (nM m) = mayMsg m := by
  rw [← mays_same, ← mays_same]
  unfold refMay
  have h1 : decide (nM m = plainM (nM m)) = decide (m = plainM m) := by rw [Bool.eq_iff_iff]; simp only [decide_eq_true_eq]; exact nM_plain m
  have h2 : isRep (nM m).frm = isRep m.frm := clamp_rep _
  have h3 : isRep (nM m).to = isRep m.to := clamp_rep _
  rw [h1, h2, h3, nM_tail]
  rfl
theorem nM_id {m : MsgD} (h : mayMsg m = true) : nM m = m := by
  rw [← mays_same] at h
  simp only [refMay, Bool.and_eq_true, decide_eq_true_eq] at h
  obtain ⟨⟨⟨⟨⟨⟨⟨⟨hk, hp⟩, hf⟩, ht⟩, _⟩, _⟩, _⟩, _⟩, htl⟩ := h
  have hl : m.list.map nTm = m.list := by
    by_cases h3 : m.kind = 3
    · unfold tailM at htl
      rw [if_pos h3] at htl
      simp only [Bool.and_eq_true, List.all_eq_true] at htl
      calc m.list.map nTm = m.list.map id := List.map_congr_left fun t ht => nTm_id (htl.2 t ht)
        _ = m.list := List.map_id _
    · have : m.list = [] := by
        rw [hp]
        unfold plainM
        simp only [h3, if_false]
        repeat' split
        all_goals rfl
      rw [this]; rfl
  have he : nE m.ent = m.ent := by
    by_cases h6 : m.kind = 6
    · unfold tailM at htl
      rw [if_neg (by omega), if_pos h6] at htl
      exact nE_id htl
    · have : m.ent = dE := by
        rw [hp]
        unfold plainM
        simp only [h6, if_false]
        repeat' split
        all_goals rfl
      rw [this]; exact (nE_zero dE).2 rfl
  have hq : nP m.part = m.part := by
    by_cases h5 : m.kind = 5
    · unfold tailM at htl
      rw [if_neg (by omega), if_neg (by omega), if_pos h5] at htl
      exact nP_id htl
    · have : m.part = dP := by
        rw [hp]
        unfold plainM
        simp only [h5, if_false]
        repeat' split
        all_goals rfl
      rw [this]; exact (nP_zero dP).2 rfl
  unfold nM
  rw [hl, he, hq, rep_id hf, rep_id ht]

theorem iter_mono' {α : Type} {t : RS → α × RS} (h : ∀ s, s.un = true → (t s).2.un = true) {s : RS} (hs : s.un = true) : ∀ k, (RS.iter t k s).2.un = true
  | 0 => hs
  | k + 1 => by
    have ih := iter_mono' h hs k
    by_cases he : (RS.iter t k s).2.er = 0
    · rw [iter_step he]; exact h _ ih
    · rw [iter_stop he 1]; exact ih
theorem list_mono' {α : Type} {t : RS → α × RS} (h : ∀ s, s.un = true → (t s).2.un = true) {s : RS} (hs : s.un = true) : (s.list t).2.un = true := iter_mono' h (by rw [len_un]; exact hs) _
theorem txn_mono (s : RS) (h : s.un = true) : s.txn.2.un = true := by
  unfold RS.txn
  simp only
  exact list_mono _ (list_mono _ (list_mono' (fun s h => by rw [num_un]; exact h) (by rw [blob_un, num_un, num_un]; exact h)))
theorem iter_st' {α β : Type} {t1 : RS → α × RS} {t2 : RS → β × RS} (h : ∀ s, (t2 s).2 = (t1 s).2) (s : RS) : ∀ k, (RS.iter t2 k s).2 = (RS.iter t1 k s).2
  | 0 => rfl
  | k + 1 => by
    have ih := iter_st' h s k
    by_cases he : (RS.iter t1 k s).2.er = 0
    · rw [iter_step he, iter_step (by rw [ih]; exact he)]
      simp only
      rw [h, ih]
    · rw [iter_stop he 1, iter_stop (by rw [ih]; exact he) 1]
      exact ih
theorem list_st' {α β : Type} {t1 : RS → α × RS} {t2 : RS → β × RS} (h : ∀ s, (t2 s).2 = (t1 s).2) (s : RS) : (s.list t2).2 = (s.list t1).2 := iter_st' h _ _
theorem iter_map {α : Type} {t1 t2 : RS → α × RS} {g : α → α} (st : ∀ s, (t2 s).2 = (t1 s).2) (mono : ∀ s, s.un = true → (t1 s).2.un = true) (val : ∀ s, (t1 s).2.er = 0 → (t1 s).2.un = false → (t2 s).1 = g (t1 s).1) (s : RS) :
    ∀ k, (RS.iter t1 k s).2.er = 0 → (RS.iter t1 k s).2.un = false → (RS.iter t2 k s).1 = (RS.iter t1 k s).1.map g
  | 0 => fun _ _ => rfl
  | k + 1 => by
    intro he hu
    by_cases he0 : (RS.iter t1 k s).2.er = 0
    · have hst := iter_st' st s k
      rw [iter_step he0] at he hu ⊢
      rw [iter_step (by rw [hst]; exact he0)]
      simp only at he hu ⊢
      have hu0 : (RS.iter t1 k s).2.un = false := by
        cases c : (RS.iter t1 k s).2.un with
        | false => rfl
        | true => rw [mono _ c] at hu; cases hu
      rw [iter_map st mono val s k he0 hu0, hst, val _ he hu, List.map_append]
      rfl
    · rw [iter_stop he0 1] at he
      exact absurd he he0
theorem list_map' {α : Type} {t1 t2 : RS → α × RS} {g : α → α} (st : ∀ s, (t2 s).2 = (t1 s).2) (mono : ∀ s, s.un = true → (t1 s).2.un = true) (val : ∀ s, (t1 s).2.er = 0 → (t1 s).2.un = false → (t2 s).1 = g (t1 s).1) (s : RS) (he : (s.list t1).2.er = 0) (hu : (s.list t1).2.un = false) : (s.list t2).1 = (s.list t1).1.map g := iter_map st mono val _ _ he hu

theorem txns_same (s : RS) (he : (s.list RS.txn).2.er = 0) (hu : (s.list RS.txn).2.un = false) : (s.list RS.dtxn).1 = (s.list RS.txn).1 := by
  have := list_map' (g := id) dtxn_st txn_mono (fun s _ hu => by rw [dtxn_same s hu]; rfl) s he hu
  rwa [List.map_id] at this
theorem entry_mono (s : RS) (h : s.un = true) : s.entry.2.un = true := by
  unfold RS.entry RS.kind
  simp only
  split
  · exact list_mono' txn_mono (by rw [num_un, num_un, must_un, num_un]; exact h)
  · rw [must_un, num_un]; exact h
theorem dentry_st (s : RS) : s.dentry.2 = s.entry.2 := by
  unfold RS.dentry RS.entry RS.kind RS.small
  simp only
  by_cases h1 : s.num.1 = 1
  · have c1 : clamp s.num.1 = 1 := (clamp_eq (by omega)).2 h1
    rw [c1, h1]
    simp only [if_pos, if_neg (show ¬ (1 : Int) = 0 by decide)]
    rw [show decide ((0 : Int) ≤ 1 ∧ (1 : Int) ≤ 1) = true by decide, must_true]
    exact list_st' dtxn_st _
  rw [if_neg h1]
  by_cases h0 : s.num.1 = 0
  · have c0 : clamp s.num.1 = 0 := (clamp_eq (by omega)).2 h0
    rw [c0, h0, if_pos rfl, show decide ((0 : Int) ≤ 0 ∧ (0 : Int) ≤ 1) = true by decide, must_true]
  · have c0 : clamp s.num.1 ≠ 0 := fun h => h0 ((clamp_eq (by omega)).1 h)
    have c1 : clamp s.num.1 ≠ 1 := fun h => h1 ((clamp_eq (by omega)).1 h)
    rw [if_neg c0, if_neg c1, show decide (0 ≤ s.num.1 ∧ s.num.1 ≤ 1) = false from decide_eq_false (by omega)]
theorem must_bad {s : RS} {b : Bool} (hb : b = false) : (s.must b).er ≠ 0 := by
  subst hb
  by_cases h : s.er = 0
  · rw [must_false s h]; simp
  · rw [must_er s _ h]; exact h
theorem dentry_val (s : RS) (he : s.entry.2.er = 0) (hu : s.entry.2.un = false) : s.dentry.1 = nE s.entry.1 := by
  unfold RS.entry RS.kind at he hu ⊢
  unfold RS.dentry RS.small
  simp only at he hu ⊢
  by_cases h1 : s.num.1 = 1
  · have c1 : clamp s.num.1 = 1 := (clamp_eq (by omega)).2 h1
    rw [c1]
    rw [h1] at he hu ⊢
    simp only [if_pos, if_neg (show ¬ (1 : Int) = 0 by decide)] at he hu ⊢
    rw [show decide ((0 : Int) ≤ 1 ∧ (1 : Int) ≤ 1) = true by decide, must_true] at he hu ⊢
    rw [txns_same _ he hu]
    rfl
  rw [if_neg h1] at he hu ⊢
  by_cases h0 : s.num.1 = 0
  · have c0 : clamp s.num.1 = 0 := (clamp_eq (by omega)).2 h0
    rw [c0, h0, if_pos rfl]
    rfl
  · exact absurd he (must_bad (decide_eq_false (by omega)))
theorem termed_mono (s : RS) (h : s.un = true) : s.termed.2.un = true := entry_mono _ (by rw [num_un]; exact h)
theorem dtermed_st (s : RS) : s.dtermed.2 = s.termed.2 := dentry_st _
theorem dtermed_val (s : RS) (he : s.termed.2.er = 0) (hu : s.termed.2.un = false) : s.dtermed.1 = nTm s.termed.1 := by
  unfold RS.dtermed RS.termed nTm at *
  simp only at *
  rw [dentry_val _ he hu]
theorem dpart_st (s : RS) : s.dpart.2 = s.part.2 := rfl
theorem dpart_val (s : RS) : s.dpart.1 = nP s.part.1 := rfl

/-- A message, as the document reads it. -/
def RS.dmsg (s : RS) : MsgD × RS :=
  if s.small.1 = 1 then RS.dm1 s.small.2 else if s.small.1 = 2 then RS.dm2 s.small.2 else if s.small.1 = 3 then RS.dm3 s.small.2 else if s.small.1 = 4 then RS.dm4 s.small.2 else if s.small.1 = 5 then RS.dm5 s.small.2 else if s.small.1 = 6 then RS.dm6 s.small.2 else RS.dm0 s.small.1 (if s.small.2.er = 0 then ⟨s.small.2.zs, 40, s.small.2.un⟩ else s.small.2)
theorem msg_d {w : World} {R lo : Nat} {ZB : List Int} {s : RS} (h : Dr w R lo ZB s) :
    Calls Tryz.prog 53 #[.pointer (some ⟨R, 0, none⟩)] w fun e w' => ∃ cs, e = .returned (.agg cs) ∧ OwnM w.heap.size w' cs s.dmsg.1 ∧ Dr w' R lo ZB s.dmsg.2 ∧ But R w w' := by
  unfold RS.dmsg
  split
  · rename_i hk; exact msg_d1 h hk
  split
  · rename_i hk; exact msg_d2 h hk
  split
  · rename_i hk; exact msg_d3 h hk
  split
  · rename_i hk; exact msg_d4 h hk
  split
  · rename_i hk; exact msg_d5 h hk
  split
  · rename_i hk; exact msg_d6 h hk
  split
  · rename_i hx; exact msg_d0y h rfl hx (by omega)
  · rename_i hx; exact msg_d0x h rfl hx

theorem small_er {s : RS} (h : s.er ≠ 0) : s.small = (0, s) := by
  unfold RS.small
  rw [num_er h]
  simp [clamp]
theorem dmsg_same (s : RS) : s.dmsg.2 = s.msg.2 ∧ (s.msg.2.er = 0 → s.msg.2.un = false → s.dmsg.1 = nM s.msg.1) := by
  have hs1 : s.small.1 = clamp s.num.1 := rfl
  have hs2 : s.small.2 = s.num.2 := rfl
  unfold RS.dmsg RS.msg RS.kind
  rw [hs1, hs2]
  simp only
  have z : nE ⟨0, 0, 0, []⟩ = ⟨0, 0, 0, []⟩ := (nE_zero dE).2 rfl
  have zp : nP ⟨0, 0, 0, []⟩ = ⟨0, 0, 0, []⟩ := (nP_zero dP).2 rfl
  by_cases h1 : s.num.1 = 1
  · rw [(clamp_eq (k := 1) (by omega)).2 h1, h1, if_pos rfl, show decide ((1 : Int) ≤ 1 ∧ (1 : Int) ≤ 6) = true by decide, must_true]
    refine ⟨by simp [RS.dm1, RS.fields, RS.field, fieldsL, RS.small], fun _ _ => by simp [RS.dm1, RS.fields, RS.field, fieldsL, RS.small, nM, z, zp]⟩
  by_cases h2 : s.num.1 = 2
  · rw [(clamp_eq (k := 2) (by omega)).2 h2, h2, if_neg (by decide), if_pos rfl, show decide ((1 : Int) ≤ 2 ∧ (2 : Int) ≤ 6) = true by decide, must_true]
    refine ⟨by simp [RS.dm2, RS.fields, RS.field, fieldsL, RS.small], fun _ _ => by simp [RS.dm2, RS.fields, RS.field, fieldsL, RS.small, nM, z, zp]⟩
  by_cases h3 : s.num.1 = 3
  · rw [(clamp_eq (k := 3) (by omega)).2 h3, h3, if_neg (by decide), if_neg (by decide), if_pos rfl, show decide ((1 : Int) ≤ 3 ∧ (3 : Int) ≤ 6) = true by decide, must_true]
    refine ⟨by simp [RS.dm3, RS.fields, RS.field, fieldsL, RS.small]; exact list_st' dtermed_st _, fun he hu => ?_⟩
    simp [RS.fields, RS.field, fieldsL] at he hu
    simp [RS.dm3, RS.fields, RS.field, fieldsL, RS.small, nM, z, zp]
    exact list_map' dtermed_st termed_mono dtermed_val _ he hu
  by_cases h4 : s.num.1 = 4
  · rw [(clamp_eq (k := 4) (by omega)).2 h4, h4, if_neg (by decide), if_neg (by decide), if_neg (by decide), if_pos rfl, show decide ((1 : Int) ≤ 4 ∧ (4 : Int) ≤ 6) = true by decide, must_true]
    refine ⟨by simp [RS.dm4, RS.fields, RS.field, fieldsL, RS.small], fun _ _ => by simp [RS.dm4, RS.fields, RS.field, fieldsL, RS.small, nM, z, zp]⟩
  by_cases h5 : s.num.1 = 5
  · rw [(clamp_eq (k := 5) (by omega)).2 h5, h5, if_neg (by decide), if_neg (by decide), if_neg (by decide), if_neg (by decide), if_pos rfl, show decide ((1 : Int) ≤ 5 ∧ (5 : Int) ≤ 6) = true by decide, must_true]
    refine ⟨by simp [RS.dm5, RS.fields, RS.field, fieldsL, RS.small, dpart_st], fun _ _ => by simp [RS.dm5, RS.fields, RS.field, fieldsL, RS.small, nM, z, dpart_val]⟩
  by_cases h6 : s.num.1 = 6
  · rw [(clamp_eq (k := 6) (by omega)).2 h6, h6, if_neg (by decide), if_neg (by decide), if_neg (by decide), if_neg (by decide), if_neg (by decide), if_pos rfl, show decide ((1 : Int) ≤ 6 ∧ (6 : Int) ≤ 6) = true by decide, must_true]
    refine ⟨by simp [RS.dm6, RS.fields, RS.field, fieldsL, RS.small, dentry_st], fun he hu => ?_⟩
    simp [RS.fields, RS.field, fieldsL] at he hu
    simp [RS.dm6, RS.fields, RS.field, fieldsL, RS.small, nM, zp, dentry_val _ he hu]
  have c : ∀ k : Int, -2147483648 < k ∧ k ≤ 2147483648 → s.num.1 ≠ k → clamp s.num.1 ≠ k := fun k hk h e => h ((clamp_eq hk).1 e)
  rw [if_neg (c 1 (by omega) h1), if_neg (c 2 (by omega) h2), if_neg (c 3 (by omega) h3), if_neg (c 4 (by omega) h4), if_neg (c 5 (by omega) h5), if_neg (c 6 (by omega) h6)]
  have hf : fieldsL s.num.1 = [] := by simp [fieldsL, h1, h2, h3, h4, h5, h6]
  have hd : decide (1 ≤ s.num.1 ∧ s.num.1 ≤ 6) = false := decide_eq_false (by omega)
  rw [hf, hd]
  have hs : (if s.num.2.er = 0 then (⟨s.num.2.zs, 40, s.num.2.un⟩ : RS) else s.num.2) = s.num.2.must false := by
    by_cases h : s.num.2.er = 0
    · rw [if_pos h, must_false _ h]
    · rw [if_neg h, must_er _ _ h]
  rw [hs]
  have hb : (s.num.2.must false).er ≠ 0 := must_bad rfl
  generalize s.num.2.must false = s1 at hb ⊢
  unfold RS.dm0 RS.fields
  simp only [List.foldl_nil]
  rw [small_er hb]
  simp only
  rw [small_er hb]
  simp only
  rw [num_er hb]
  simp only
  rw [num_er hb]
  exact ⟨rfl, fun he => absurd he hb⟩

theorem fault_zero {s : RS} {b : Bool} (he : s.er = 0) : s.fault b = if b && !s.un then 0 else 40 := by
  unfold RS.fault
  rw [if_neg (fun h => h he)]
theorem finM_same {p q : MsgD × RS} (hs : q.2 = p.2) (hv : p.2.er = 0 → p.2.un = false → q.1 = nM p.1) : finM q = finM p := by
  unfold finM
  rw [hs]
  by_cases he : p.2.er = 0
  · by_cases hz : p.2.zs = []
    · rw [fin_no (fun h => h.2 hz)]
      rw [fault_zero he, fault_zero he]
      cases hu : p.2.un with
      | true => simp
      | false =>
        rw [hv he hu, nM_may]
        cases hm : mayMsg p.1 with
        | false => simp
        | true => simp [nM_id hm]
    · rw [fin_yes ⟨he, hz⟩]
      simp [RS.fault]
  · rw [fin_no (fun h => he h.1)]
    simp [RS.fault, he]
def dunm (zs : List Int) : MsgD × Int := if (tu zs).2.2 ≠ 0 then (dG, (tu zs).2.2) else if (tu zs).2.1 < zs.length then (dG, 13) else finM (RS.mk (tu zs).1 0 false).dmsg
theorem dunm_same (zs : List Int) : dunm zs = unm zs := by
  unfold dunm unm
  have := dmsg_same (RS.mk (tu zs).1 0 false)
  rw [finM_same this.1 this.2]
/-- What the document reads as an entry. -/
def dtakeE (zs : List Int) : EntD × Int :=
  let r := (RS.mk zs 0 false).dentry
  let e := r.2.fin.fault (mayE r.1)
  if e = 0 then (r.1, 0) else (dE, e)
theorem dtakeE_same (zs : List Int) : dtakeE zs = takeE zs := by
  unfold dtakeE takeE
  simp only
  have hs := dentry_st (RS.mk zs 0 false)
  have hv := dentry_val (RS.mk zs 0 false)
  generalize (RS.mk zs 0 false).dentry = q at *
  generalize (RS.mk zs 0 false).entry = p at *
  rw [hs]
  by_cases he : p.2.er = 0
  · by_cases hz : p.2.zs = []
    · rw [fin_no (fun h => h.2 hz)]
      rw [fault_zero he, fault_zero he]
      cases hu : p.2.un with
      | true => simp
      | false =>
        rw [hv he hu, nE_may]
        cases hm : mayE p.1 with
        | false => simp
        | true => simp [nE_id hm]
    · rw [fin_yes ⟨he, hz⟩]
      simp [RS.fault]
  · rw [fin_no (fun h => he h.1)]
    simp [RS.fault, he]

theorem dtxn_byt {s : RS} (h : Byt s.zs) : Byt s.dtxn.2.zs ∧ ReadT s.dtxn.1 := by
  have h3 := blob_byt (num_byt (num_byt h))
  exact ⟨by rw [dtxn_st]; exact (txn_byt h).1, ⟨h3.2, list_len _ _, list_len _ _, list_len _ _⟩⟩
theorem dentry_byt {s : RS} (h : Byt s.zs) : Byt s.dentry.2.zs ∧ ReadE s.dentry.1 := by
  refine ⟨by rw [dentry_st]; exact (entry_byt h).1, ?_⟩
  unfold RS.dentry RS.small
  simp only
  split
  · exact ⟨by simp, fun t ht => by cases ht⟩
  split
  · exact ⟨list_len _ _, (list_byt (fun _ hs => dtxn_byt hs) (num_byt (num_byt (num_byt h)))).2⟩
  · exact ⟨by simp, fun t ht => by cases ht⟩
theorem dtermed_byt {s : RS} (h : Byt s.zs) : Byt s.dtermed.2.zs ∧ ReadE s.dtermed.1.ent := dentry_byt (num_byt h)
theorem read0 : ReadE ⟨0, 0, 0, []⟩ := ⟨by simp, fun t ht => by cases ht⟩
theorem small_byt {s : RS} (h : Byt s.zs) : Byt s.small.2.zs := num_byt h
theorem dmsg_byt {s : RS} (h : Byt s.zs) : ReadM s.dmsg.1 := by
  have hn : ∀ t : TmD, t ∈ ([] : List TmD) → ReadE t.ent := fun t ht => by cases ht
  have h0 : Byt s.small.2.zs := small_byt h
  unfold RS.dmsg
  split
  · exact ⟨by simp [RS.dm1], hn, read0, byt_nil⟩
  split
  · exact ⟨by simp [RS.dm2], hn, read0, byt_nil⟩
  split
  · have h3 := num_byt (num_byt (num_byt (num_byt (small_byt (small_byt h0)))))
    exact ⟨list_len _ _, (list_byt (take := RS.dtermed) (P := fun t => ReadE t.ent) (fun _ hs => dtermed_byt hs) h3).2, read0, byt_nil⟩
  split
  · exact ⟨by simp [RS.dm4], hn, read0, byt_nil⟩
  split
  · have h3 := num_byt (num_byt (num_byt (small_byt (small_byt h0))))
    exact ⟨by simp [RS.dm5], hn, read0, (part_byt h3).2⟩
  split
  · exact ⟨by simp [RS.dm6], hn, (dentry_byt (small_byt (small_byt h0))).2, byt_nil⟩
  · exact ⟨by simp [RS.dm0], hn, read0, byt_nil⟩
end Go.Proofs.YtggllgimlfchhaaGreat
