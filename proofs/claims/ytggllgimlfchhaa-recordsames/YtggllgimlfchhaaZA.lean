/- Record: the reader. -/
import Derived.Test.YtggllgimlfchhaaKC
namespace Go.Proofs.Ytggllgimlfchhaa
open Go.RowKit
set_option maxRecDepth 100000

/-- Only block R is written. -/
structure But (R : Nat) (w w' : World) : Prop where
  os : w'.os = w.os
  tape : w'.tape = w.tape
  output : w'.output = w.output
  size : w.heap.size ≤ w'.heap.size
  block : ∀ k, k < w.heap.size → k ≠ R → w'.heap[k]? = w.heap[k]?
theorem But.refl (R : Nat) (w : World) : But R w w := ⟨rfl, rfl, rfl, Nat.le_refl _, fun _ _ _ => rfl⟩
theorem But.trans {R : Nat} {a b c : World} (h : But R a b) (k : But R b c) : But R a c :=
  ⟨k.os.trans h.os, k.tape.trans h.tape, k.output.trans h.output, Nat.le_trans h.size k.size, fun i hi hR => (k.block i (Nat.lt_of_lt_of_le hi h.size) hR).trans (h.block i hi hR)⟩
theorem But.of {R : Nat} {w w' : World} (h : Below w.heap.size w w') : But R w w' := ⟨h.os, h.tape, h.output, h.size, fun k hk _ => h.block k hk⟩
theorem But.set {R : Nat} {a w : World} (h : But R a w) (o : Nat) (u : Value) : But R a (w.setCell ⟨R, o, none⟩ u) :=
  h.trans ⟨rfl, rfl, rfl, by simp [World.setCell], fun k _ hR => Below.heap_setCell _ _ _ _ (fun e => hR e)⟩
theorem But.below {R N : Nat} {w w' : World} (h : But R w w') (hN : N ≤ R) (hs : N ≤ w.heap.size) : Below N w w' := ⟨h.os, h.tape, h.output, h.size, fun k hk => h.block k (by omega) (by omega)⟩

/-- The reader at block R: what is left, the first error, whether a number did not fit. -/
structure Rd (w : World) (R lo : Nat) (zs : List Int) (er : Int) (un : Bool) : Prop where
  cb : ∃ v, w.cell? ⟨R, 0, none⟩ = some v ∧ SeesB lo w .u8 v zs
  ce : w.cell? ⟨R, 1, none⟩ = some (.int .i64 er)
  cu : w.cell? ⟨R, 2, none⟩ = some (.bool un)
  fr : ∀ o, w.frozen? ⟨R, o, none⟩ = false
  lt : lo ≤ R
  byt : Byt zs
  len : zs.length ≤ 140737488351232
theorem Rd.rlt {w : World} {R lo : Nat} {zs : List Int} {er : Int} {un : Bool} (h : Rd w R lo zs er un) : R < w.heap.size := World.block_lt_of_cell? w _ h.ce
theorem Rd.below {w w' : World} {R lo : Nat} {zs : List Int} {er : Int} {un : Bool} (h : Rd w R lo zs er un) (hb : Below w.heap.size w w') : Rd w' R lo zs er un := by
  obtain ⟨v, h1, h2⟩ := h.cb
  have hr := h.rlt
  have hl := h.lt
  have c : ∀ o u, w.cell? ⟨R, o, none⟩ = some u → w'.cell? ⟨R, o, none⟩ = some u := fun o u e => (hb.cell (p := ⟨R, o, none⟩) hr).trans e
  exact ⟨⟨v, c _ _ h1, h2.below hb (by omega)⟩, c _ _ h.ce, c _ _ h.cu, fun o => (World.frozen?_of_block (w := w) (hb.block R hr)).trans (h.fr o), hl, h.byt, h.len⟩
theorem SeesB.setR {w : World} {R lo : Nat} {v : Value} {zs : List Int} (h : SeesB lo w .u8 v zs) (hl : lo ≤ R) (o : Nat) (u : Value) : SeesB lo (w.setCell ⟨R, o, none⟩ u) .u8 v zs :=
  h.below (B' := lo) ⟨rfl, rfl, rfl, by simp [World.setCell], fun k hk => Below.heap_setCell _ _ _ _ (fun e => by simp only at e; omega)⟩ (Nat.le_refl _)
/-- What is left, and the error, are set. -/
theorem Rd.set {w : World} {R lo : Nat} {zs zs' : List Int} {er er' : Int} {un : Bool} {v : Value} (h : Rd w R lo zs er un) (hv : SeesB lo w .u8 v zs') (hb : Byt zs') (hn : zs'.length ≤ 140737488351232) :
    Rd ((w.setCell ⟨R, 0, none⟩ v).setCell ⟨R, 1, none⟩ (.int .i64 er')) R lo zs' er' un := by
  obtain ⟨v0, h1, _⟩ := h.cb
  have n01 : (⟨R, 0, none⟩ : Addr) ≠ ⟨R, 1, none⟩ := by simp
  have n10 : (⟨R, 1, none⟩ : Addr) ≠ ⟨R, 0, none⟩ := by simp
  have n12 : (⟨R, 1, none⟩ : Addr) ≠ ⟨R, 2, none⟩ := by simp
  have n02 : (⟨R, 0, none⟩ : Addr) ≠ ⟨R, 2, none⟩ := by simp
  have e1 : (w.setCell ⟨R, 0, none⟩ v).cell? ⟨R, 1, none⟩ = some (.int .i64 er) := (World.cell?_setCell_other _ _ _ _ n01).trans h.ce
  refine ⟨⟨v, (World.cell?_setCell_other _ _ _ _ n10).trans (World.cell?_setCell_same _ _ _ h1), (hv.setR h.lt _ _).setR h.lt _ _⟩, World.cell?_setCell_same _ _ _ e1,
    (World.cell?_setCell_other _ _ _ _ n12).trans ((World.cell?_setCell_other _ _ _ _ n02).trans h.cu), fun o => ?_, h.lt, hb, hn⟩
  rw [World.frozen?_setCell, World.frozen?_setCell]
  exact h.fr o
theorem Rd.err {w : World} {R lo : Nat} {zs : List Int} {er er' : Int} {un : Bool} (h : Rd w R lo zs er un) : Rd (w.setCell ⟨R, 1, none⟩ (.int .i64 er')) R lo zs er' un := by
  obtain ⟨v0, h1, h2⟩ := h.cb
  have n10 : (⟨R, 1, none⟩ : Addr) ≠ ⟨R, 0, none⟩ := by simp
  have n12 : (⟨R, 1, none⟩ : Addr) ≠ ⟨R, 2, none⟩ := by simp
  refine ⟨⟨v0, (World.cell?_setCell_other _ _ _ _ n10).trans h1, h2.setR h.lt _ _⟩, World.cell?_setCell_same _ _ _ h.ce, (World.cell?_setCell_other _ _ _ _ n12).trans h.cu, fun o => ?_, h.lt, h.byt, h.len⟩
  rw [World.frozen?_setCell]
  exact h.fr o
theorem Rd.odd {w : World} {R lo : Nat} {zs : List Int} {er : Int} {un un' : Bool} (h : Rd w R lo zs er un) : Rd (w.setCell ⟨R, 2, none⟩ (.bool un')) R lo zs er un' := by
  obtain ⟨v0, h1, h2⟩ := h.cb
  have n20 : (⟨R, 2, none⟩ : Addr) ≠ ⟨R, 0, none⟩ := by simp
  have n21 : (⟨R, 2, none⟩ : Addr) ≠ ⟨R, 1, none⟩ := by simp
  refine ⟨⟨v0, (World.cell?_setCell_other _ _ _ _ n20).trans h1, h2.setR h.lt _ _⟩, (World.cell?_setCell_other _ _ _ _ n21).trans h.ce, World.cell?_setCell_same _ _ _ h.cu, fun o => ?_, h.lt, h.byt, h.len⟩
  rw [World.frozen?_setCell]
  exact h.fr o

/-! ### in pure terms: a reader is (what is left, the first error, unfit) -/
structure RS where
  zs : List Int
  er : Int
  un : Bool
def RS.num (s : RS) : Int × RS := if s.er = 0 then ((tn s.zs).1, ⟨s.zs.drop (tn s.zs).2.1, (tn s.zs).2.2, s.un⟩) else (0, s)
def RS.blob (s : RS) : List Int × RS := if s.er = 0 then ((tb s.zs).1, ⟨s.zs.drop (tb s.zs).2.1, (tb s.zs).2.2, s.un⟩) else ([], s)
def RS.must (s : RS) (b : Bool) : RS := if !b && decide (s.er = 0) then { s with er := 40 } else s
abbrev RdS (w : World) (R lo : Nat) (s : RS) : Prop := Rd w R lo s.zs s.er s.un

theorem tn_size (l : List Int) : (tn l).2.1 ≤ l.length := by
  by_cases h : (tn l).2.2 = 0
  · exact (tn_le l h).2
  · rw [(tn_no l h).2]; omega
theorem tb_size (l : List Int) : (tb l).2.1 ≤ l.length := by
  unfold tb
  split
  · simp
  · split
    · simp
    · rename_i h1 _
      split
      · simp
      · rename_i h2
        have := (tn_le l (by simpa using h1)).2
        simp only
        omega
/-- A row of one's own, behind a store into an elder block. -/
theorem own_setR {w : World} {base R e size : Nat} {v : Value} {n : Nat} {xs : List Value} (h : w.ownsRow base e size v n xs) (hR : R < base) (o : Nat) (u : Value) : (w.setCell ⟨R, o, none⟩ u).ownsRow base e size v n xs := by
  refine ⟨h.1, ?_⟩
  rcases h.2 with hn | ⟨g, cap, cur, hv, hg, hh, r⟩
  · exact .inl hn
  · exact .inr ⟨g, cap, cur, hv, hg, (Below.heap_setCell _ _ _ _ (fun e => by simp only at e; omega)).trans hh, r⟩

set_option maxHeartbeats 1600000 in
theorem takenNum_any {w : World} {R lo : Nat} {s : RS} (h : RdS w R lo s) :
    Calls Try.prog 96 #[.pointer (some ⟨R, 0, none⟩), .func (.func 97) #[] #[]] w fun e w' => e = .returned (.int .i64 s.num.1) ∧ RdS w' R lo s.num.2 ∧ But R w w' := by
  unfold RS.num
  obtain ⟨zs, er, un⟩ := s
  simp only [RdS] at h ⊢
  by_cases he : er = 0
  · subst he
    rw [if_pos rfl]
    obtain ⟨v, hv, hsb⟩ := h.cb
    have h1 := h.ce
    have hle := tn_size zs
    have HT := hide (takeNum_any v zs w hsb.sees h.byt (by have := h.len; omega))
    have HH := hide h
    have HSB := hide hsb
    obtain ⟨ao, cap, rfl, hcap, _⟩ := hsb
    have hfr := h.fr
    generalize tn zs = t at *
    obtain ⟨n, k, e⟩ := t
    simp only at hle HT ⊢
    have HD : Hid (∀ w1, Below w.heap.size w w1 → SeesB lo w1 .u8 (.slice (if cap = k then ao else ao.map (·.add k)) (zs.length - k) (cap - k)) (zs.drop k)) := fun w1 hb => by
      have hr := (unhide HH).rlt
      have hl := (unhide HH).lt
      have := ((unhide HSB).below hb (by omega)).cut k (zs.length - k) (by omega)
      rwa [List.take_of_length_le (by rw [List.length_drop]; omega)] at this
    have HB : Hid (Byt (zs.drop k) ∧ (zs.drop k).length ≤ 140737488351232) := ⟨h.byt.drop k, by have := h.len; rw [List.length_drop]; omega⟩
    have HRL := hide h.rlt
    clear h
    go_enter Try.func96, Try.ntmps96
    go_wp2_with fail
    refine (unhide HT).mono ?_
    rintro er w1 ⟨rfl, hb1⟩
    have hw1 := (unhide HH).below hb1
    have hv1 : w1.cell? ⟨R, 0, none⟩ = some (.slice ao zs.length cap) := (hb1.cell (p := ⟨R, 0, none⟩) (unhide HRL)).trans hv
    have g1 := hw1.ce
    have g2 := hw1.fr
    have hD := unhide HD w1 hb1
    have HBT := hide hb1
    by_cases hck : cap = k
    · subst hck
      rw [if_pos rfl] at hD
      have HR := hide (hw1.set (er' := e) hD (unhide HB).1 (unhide HB).2)
      have hz0 : zs.length - cap = 0 := by omega
      have hz1 : cap - cap = 0 := by omega
      rw [hz0, hz1] at HR
      have hle2 : zs.length = cap := by omega
      clear hw1 hD hv hb1 HD HH HSB HT
      go_wp2_with fail
      go_ret
      exact ⟨rfl, unhide HR, ((But.of (unhide HBT)).set 0 _).set 1 _⟩
    · rw [if_neg hck] at hD
      have HR := hide (hw1.set (er' := e) hD (unhide HB).1 (unhide HB).2)
      clear hw1 hD hv hb1 HD HH HSB HT
      go_wp2_with fail
      go_ret
      exact ⟨rfl, unhide HR, ((But.of (unhide HBT)).set 0 _).set 1 _⟩
  · rw [if_neg he]
    have h1 := h.ce
    have HH := hide h
    clear h
    go_enter Try.func96, Try.ntmps96
    go_wp2_with fail
    go_ret
    exact ⟨rfl, unhide HH, But.refl _ _⟩

set_option maxHeartbeats 1600000 in
theorem takenBlob_any {w : World} {R lo : Nat} {s : RS} (h : RdS w R lo s) :
    Calls Try.prog 98 #[.pointer (some ⟨R, 0, none⟩), .func (.func 99) #[] #[]] w fun e w' => ∃ x, e = .returned x ∧ w'.ownsRow w.heap.size 5 1 x s.blob.1.length (ints .u8 s.blob.1) ∧ RdS w' R lo s.blob.2 ∧ But R w w' := by
  unfold RS.blob
  obtain ⟨zs, er, un⟩ := s
  simp only [RdS] at h ⊢
  by_cases he : er = 0
  · subst he
    rw [if_pos rfl]
    obtain ⟨v, hv, hsb⟩ := h.cb
    have h1 := h.ce
    have hle := tb_size zs
    have HT := hide (takeBlob_any v zs w hsb.sees h.byt (by have := h.len; omega))
    have HH := hide h
    have HSB := hide hsb
    obtain ⟨ao, cap, rfl, hcap, _⟩ := hsb
    have hfr := h.fr
    generalize tb zs = t at *
    obtain ⟨n, k, e⟩ := t
    simp only at hle HT ⊢
    have HD : Hid (∀ w1, Below w.heap.size w w1 → SeesB lo w1 .u8 (.slice (if cap = k then ao else ao.map (·.add k)) (zs.length - k) (cap - k)) (zs.drop k)) := fun w1 hb => by
      have hr := (unhide HH).rlt
      have hl := (unhide HH).lt
      have := ((unhide HSB).below hb (by omega)).cut k (zs.length - k) (by omega)
      rwa [List.take_of_length_le (by rw [List.length_drop]; omega)] at this
    have HB : Hid (Byt (zs.drop k) ∧ (zs.drop k).length ≤ 140737488351232) := ⟨h.byt.drop k, by have := h.len; rw [List.length_drop]; omega⟩
    have HRL := hide h.rlt
    clear h
    go_enter Try.func98, Try.ntmps98
    go_wp2_with fail
    refine (unhide HT).mono ?_
    rintro er w1 ⟨x, rfl, hox, hb1⟩
    have hw1 := (unhide HH).below hb1
    have hv1 : w1.cell? ⟨R, 0, none⟩ = some (.slice ao zs.length cap) := (hb1.cell (p := ⟨R, 0, none⟩) (unhide HRL)).trans hv
    have g1 := hw1.ce
    have g2 := hw1.fr
    have hD := unhide HD w1 hb1
    have HBT := hide hb1
    have HOX : Hid (∀ u u', ((w1.setCell ⟨R, 0, none⟩ u).setCell ⟨R, 1, none⟩ u').ownsRow w.heap.size 5 1 x n.length (ints .u8 n)) := fun u u' => own_setR (own_setR hox (unhide HRL) 0 u) (unhide HRL) 1 u'
    obtain ⟨ax, cx, rfl⟩ := own_shape hox
    clear hox
    by_cases hck : cap = k
    · subst hck
      rw [if_pos rfl] at hD
      have HR := hide (hw1.set (er' := e) hD (unhide HB).1 (unhide HB).2)
      have hz0 : zs.length - cap = 0 := by omega
      have hz1 : cap - cap = 0 := by omega
      rw [hz0, hz1] at HR
      have hle2 : zs.length = cap := by omega
      clear hw1 hD hv hb1 HD HH HSB HT
      go_wp2_with fail
      go_ret
      exact ⟨.slice ax n.length cx, rfl, unhide HOX _ _, unhide HR, ((But.of (unhide HBT)).set 0 _).set 1 _⟩
    · rw [if_neg hck] at hD
      have HR := hide (hw1.set (er' := e) hD (unhide HB).1 (unhide HB).2)
      clear hw1 hD hv hb1 HD HH HSB HT
      go_wp2_with fail
      go_ret
      exact ⟨.slice ax n.length cx, rfl, unhide HOX _ _, unhide HR, ((But.of (unhide HBT)).set 0 _).set 1 _⟩
  · rw [if_neg he]
    have h1 := h.ce
    have HH := hide h
    clear h
    go_enter Try.func98, Try.ntmps98
    go_wp2_with fail
    go_ret
    exact ⟨.slice none 0 0, rfl, World.ownsRow_nil _ _ _ _, unhide HH, But.refl _ _⟩
end Go.Proofs.Ytggllgimlfchhaa
