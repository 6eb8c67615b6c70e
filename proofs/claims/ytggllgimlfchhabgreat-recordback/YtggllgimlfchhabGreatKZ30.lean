/- Several texts as one. -/
import Derived.Test.YtggllgimlfchhabGreatKZ29
import Derived.Laws.Rows

/- Record: the reader. -/
namespace Go.Proofs.YtggllgimlfchhabGreat
open Go.RowKit
set_option maxRecDepth 100000

/-- Only block R is written. -/
structure But (R : Nat) (w w' : World) : Prop where
  os : w'.os = w.os
  tape : w'.tape = w.tape
  output : w'.output = w.output
  size : w.heap.size ≤ w'.heap.size
  block : ∀ k, k < w.heap.size → k ≠ R → w'.heap[k]? = w.heap[k]?
theorem But.refl (R : Nat) (w : World) : But R w w := ⟨rfl, rfl, rfl, Nat.le_refl _, fun _ _ _ => rfl⟩
theorem But.trans {R : Nat} {a b c : World} (h : But R a b) (k : But R b c) : But R a c :=
  ⟨k.os.trans h.os, k.tape.trans h.tape, k.output.trans h.output, Nat.le_trans h.size k.size, fun i hi hR => (k.block i (Nat.lt_of_lt_of_le hi h.size) hR).trans (h.block i hi hR)⟩
theorem But.of {R : Nat} {w w' : World} (h : Below w.heap.size w w') : But R w w' := ⟨h.os, h.tape, h.output, h.size, fun k hk _ => h.block k hk⟩
theorem But.set {R : Nat} {a w : World} (h : But R a w) (o : Nat) (u : Value) : But R a (w.setCell ⟨R, o, none⟩ u) :=
  h.trans ⟨rfl, rfl, rfl, by simp [World.setCell], fun k _ hR => Below.heap_setCell _ _ _ _ (fun e => hR e)⟩
theorem But.below {R N : Nat} {w w' : World} (h : But R w w') (hN : N ≤ R) (hs : N ≤ w.heap.size) : Below N w w' := ⟨h.os, h.tape, h.output, h.size, fun k hk => h.block k (by omega) (by omega)⟩

/-- The reader at block R: what is left, the first error, whether a number did not fit. -/
structure Rd (w : World) (R lo : Nat) (zs : List Int) (er : Int) (un : Bool) : Prop where
  cb : ∃ v, w.cell? ⟨R, 0, none⟩ = some v ∧ SeesB lo w .u8 v zs
  ce : w.cell? ⟨R, 1, none⟩ = some (.int .i64 er)
  cu : w.cell? ⟨R, 2, none⟩ = some (.bool un)
  fr : ∀ o, w.frozen? ⟨R, o, none⟩ = false
  lt : lo ≤ R
  byt : Byt zs
  len : zs.length ≤ 140737488351232
theorem Rd.rlt {w : World} {R lo : Nat} {zs : List Int} {er : Int} {un : Bool} (h : Rd w R lo zs er un) : R < w.heap.size := World.block_lt_of_cell? w _ h.ce
theorem Rd.below {w w' : World} {R lo : Nat} {zs : List Int} {er : Int} {un : Bool} (h : Rd w R lo zs er un) (hb : Below w.heap.size w w') : Rd w' R lo zs er un := by
  obtain ⟨v, h1, h2⟩ := h.cb
  have hr := h.rlt
  have hl := h.lt
  have c : ∀ o u, w.cell? ⟨R, o, none⟩ = some u → w'.cell? ⟨R, o, none⟩ = some u := fun o u e => (hb.cell (p := ⟨R, o, none⟩) hr).trans e
  exact ⟨⟨v, c _ _ h1, h2.below hb (by omega)⟩, c _ _ h.ce, c _ _ h.cu, fun o => (World.frozen?_of_block (w := w) (hb.block R hr)).trans (h.fr o), hl, h.byt, h.len⟩
theorem SeesB.setR {w : World} {R lo : Nat} {v : Value} {zs : List Int} (h : SeesB lo w .u8 v zs) (hl : lo ≤ R) (o : Nat) (u : Value) : SeesB lo (w.setCell ⟨R, o, none⟩ u) .u8 v zs :=
  h.below (B' := lo) ⟨rfl, rfl, rfl, by simp [World.setCell], fun k hk => Below.heap_setCell _ _ _ _ (fun e => by simp only at e; omega)⟩ (Nat.le_refl _)
/-- What is left, and the error, are set. -/
theorem Rd.set {w : World} {R lo : Nat} {zs zs' : List Int} {er er' : Int} {un : Bool} {v : Value} (h : Rd w R lo zs er un) (hv : SeesB lo w .u8 v zs') (hb : Byt zs') (hn : zs'.length ≤ 140737488351232) :
    Rd ((w.setCell ⟨R, 0, none⟩ v).setCell ⟨R, 1, none⟩ (.int .i64 er')) R lo zs' er' un := by
  obtain ⟨v0, h1, _⟩ := h.cb
  have n01 : (⟨R, 0, none⟩ : Addr) ≠ ⟨R, 1, none⟩ := by simp
  have n10 : (⟨R, 1, none⟩ : Addr) ≠ ⟨R, 0, none⟩ := by simp
  have n12 : (⟨R, 1, none⟩ : Addr) ≠ ⟨R, 2, none⟩ := by simp
  have n02 : (⟨R, 0, none⟩ : Addr) ≠ ⟨R, 2, none⟩ := by simp
  have e1 : (w.setCell ⟨R, 0, none⟩ v).cell? ⟨R, 1, none⟩ = some (.int .i64 er) := (World.cell?_setCell_other _ _ _ _ n01).trans h.ce
  refine ⟨⟨v, (World.cell?_setCell_other _ _ _ _ n10).trans (World.cell?_setCell_same _ _ _ h1), (hv.setR h.lt _ _).setR h.lt _ _⟩, World.cell?_setCell_same _ _ _ e1,
    (World.cell?_setCell_other _ _ _ _ n12).trans ((World.cell?_setCell_other _ _ _ _ n02).trans h.cu), fun o => ?_, h.lt, hb, hn⟩
  rw [World.frozen?_setCell, World.frozen?_setCell]
  exact h.fr o
theorem Rd.err {w : World} {R lo : Nat} {zs : List Int} {er er' : Int} {un : Bool} (h : Rd w R lo zs er un) : Rd (w.setCell ⟨R, 1, none⟩ (.int .i64 er')) R lo zs er' un := by
  obtain ⟨v0, h1, h2⟩ := h.cb
  have n10 : (⟨R, 1, none⟩ : Addr) ≠ ⟨R, 0, none⟩ := by simp
  have n12 : (⟨R, 1, none⟩ : Addr) ≠ ⟨R, 2, none⟩ := by simp
  refine ⟨⟨v0, (World.cell?_setCell_other _ _ _ _ n10).trans h1, h2.setR h.lt _ _⟩, World.cell?_setCell_same _ _ _ h.ce, (World.cell?_setCell_other _ _ _ _ n12).trans h.cu, fun o => ?_, h.lt, h.byt, h.len⟩
  rw [World.frozen?_setCell]
  exact h.fr o
theorem Rd.odd {w : World} {R lo : Nat} {zs : List Int} {er : Int} {un un' : Bool} (h : Rd w R lo zs er un) : Rd (w.setCell ⟨R, 2, none⟩ (.bool un')) R lo zs er un' := by
  obtain ⟨v0, h1, h2⟩ := h.cb
  have n20 : (⟨R, 2, none⟩ : Addr) ≠ ⟨R, 0, none⟩ := by simp
  have n21 : (⟨R, 2, none⟩ : Addr) ≠ ⟨R, 1, none⟩ := by simp
  refine ⟨⟨v0, (World.cell?_setCell_other _ _ _ _ n20).trans h1, h2.setR h.lt _ _⟩, (World.cell?_setCell_other _ _ _ _ n21).trans h.ce, World.cell?_setCell_same _ _ _ h.cu, fun o => ?_, h.lt, h.byt, h.len⟩
  rw [World.frozen?_setCell]
  exact h.fr o

/-! ### in pure terms: a reader is (what is left, the first error, unfit) -/
structure RS where
  zs : List Int
  er : Int
  un : Bool
def RS.num (s : RS) : Int × RS := if s.er = 0 then ((tn s.zs).1, ⟨s.zs.drop (tn s.zs).2.1, (tn s.zs).2.2, s.un⟩) else (0, s)
def RS.blob (s : RS) : List Int × RS := if s.er = 0 then ((tb s.zs).1, ⟨s.zs.drop (tb s.zs).2.1, (tb s.zs).2.2, s.un⟩) else ([], s)
def RS.must (s : RS) (b : Bool) : RS := if !b && decide (s.er = 0) then { s with er := 40 } else s
abbrev RdS (w : World) (R lo : Nat) (s : RS) : Prop := Rd w R lo s.zs s.er s.un

theorem tn_size (l : List Int) : (tn l).2.1 ≤ l.length := by
  by_cases h : (tn l).2.2 = 0
  · exact (tn_le l h).2
  · rw [(tn_no l h).2]; omega
theorem tb_size (l : List Int) : (tb l).2.1 ≤ l.length := by
  unfold tb
  split
  · simp
  · split
    · simp
    · rename_i h1 _
      split
      · simp
      · rename_i h2
        have := (tn_le l (by simpa using h1)).2
        simp only
        omega
/-- A row of one's own, behind a store into an elder block. -/
theorem own_setR {w : World} {base R e size : Nat} {v : Value} {n : Nat} {xs : List Value} (h : w.ownsRow base e size v n xs) (hR : R < base) (o : Nat) (u : Value) : (w.setCell ⟨R, o, none⟩ u).ownsRow base e size v n xs := by
  refine ⟨h.1, ?_⟩
  rcases h.2 with hn | ⟨g, cap, cur, hv, hg, hh, r⟩
  · exact .inl hn
  · exact .inr ⟨g, cap, cur, hv, hg, (Below.heap_setCell _ _ _ _ (fun e => by simp only at e; omega)).trans hh, r⟩

set_option maxHeartbeats 1600000 in
theorem takenNum_any {w : World} {R lo : Nat} {s : RS} (h : RdS w R lo s) :
    Calls Tryz.prog 90 #[.pointer (some ⟨R, 0, none⟩), .func (.func 91) #[] #[]] w fun e w' => e = .returned (.int .i64 s.num.1) ∧ RdS w' R lo s.num.2 ∧ But R w w' := by
  unfold RS.num
  obtain ⟨zs, er, un⟩ := s
  simp only [RdS] at h ⊢
  by_cases he : er = 0
  · subst he
    rw [if_pos rfl]
    obtain ⟨v, hv, hsb⟩ := h.cb
    have h1 := h.ce
    have hle := tn_size zs
    have HT := hide (takeNum_any v zs w hsb.sees h.byt (by have := h.len; omega))
    have HH := hide h
    have HSB := hide hsb
    obtain ⟨ao, cap, rfl, hcap, _⟩ := hsb
    have hfr := h.fr
    generalize tn zs = t at *
    obtain ⟨n, k, e⟩ := t
    simp only at hle HT ⊢
    have HD : Hid (∀ w1, Below w.heap.size w w1 → SeesB lo w1 .u8 (.slice (if cap = k then ao else ao.map (·.add k)) (zs.length - k) (cap - k)) (zs.drop k)) := fun w1 hb => by
      have hr := (unhide HH).rlt
      have hl := (unhide HH).lt
      have := ((unhide HSB).below hb (by omega)).cut k (zs.length - k) (by omega)
      rwa [List.take_of_length_le (by rw [List.length_drop]; omega)] at this
    have HB : Hid (Byt (zs.drop k) ∧ (zs.drop k).length ≤ 140737488351232) := ⟨h.byt.drop k, by have := h.len; rw [List.length_drop]; omega⟩
    have HRL := hide h.rlt
    clear h
    go_enter Tryz.func90, Tryz.ntmps90
    go_wp2_with fail
    refine (unhide HT).mono ?_
    rintro er w1 ⟨rfl, hb1⟩
    have hw1 := (unhide HH).below hb1
    have hv1 : w1.cell? ⟨R, 0, none⟩ = some (.slice ao zs.length cap) := (hb1.cell (p := ⟨R, 0, none⟩) (unhide HRL)).trans hv
    have g1 := hw1.ce
    have g2 := hw1.fr
    have hD := unhide HD w1 hb1
    have HBT := hide hb1
    by_cases hck : cap = k
    · subst hck
      rw [if_pos rfl] at hD
      have HR := hide (hw1.set (er' := e) hD (unhide HB).1 (unhide HB).2)
      have hz0 : zs.length - cap = 0 := by omega
      have hz1 : cap - cap = 0 := by omega
      rw [hz0, hz1] at HR
      have hle2 : zs.length = cap := by omega
      clear hw1 hD hv hb1 HD HH HSB HT
      go_wp2_with fail
      go_ret
      exact ⟨rfl, unhide HR, ((But.of (unhide HBT)).set 0 _).set 1 _⟩
    · rw [if_neg hck] at hD
      have HR := hide (hw1.set (er' := e) hD (unhide HB).1 (unhide HB).2)
      clear hw1 hD hv hb1 HD HH HSB HT
      go_wp2_with fail
      go_ret
      exact ⟨rfl, unhide HR, ((But.of (unhide HBT)).set 0 _).set 1 _⟩
  · rw [if_neg he]
    have h1 := h.ce
    have HH := hide h
    clear h
    go_enter Tryz.func90, Tryz.ntmps90
    go_wp2_with fail
    go_ret
    exact ⟨rfl, unhide HH, But.refl _ _⟩

set_option maxHeartbeats 1600000 in
theorem takenBlob_any {w : World} {R lo : Nat} {s : RS} (h : RdS w R lo s) :
    Calls Tryz.prog 123 #[.pointer (some ⟨R, 0, none⟩), .func (.func 124) #[] #[]] w fun e w' => ∃ x, e = .returned x ∧ w'.ownsRow w.heap.size 5 1 x s.blob.1.length (ints .u8 s.blob.1) ∧ RdS w' R lo s.blob.2 ∧ But R w w' := by
  unfold RS.blob
  obtain ⟨zs, er, un⟩ := s
  simp only [RdS] at h ⊢
  by_cases he : er = 0
  · subst he
    rw [if_pos rfl]
    obtain ⟨v, hv, hsb⟩ := h.cb
    have h1 := h.ce
    have hle := tb_size zs
    have HT := hide (takeBlob_any v zs w hsb.sees h.byt (by have := h.len; omega))
    have HH := hide h
    have HSB := hide hsb
    obtain ⟨ao, cap, rfl, hcap, _⟩ := hsb
    have hfr := h.fr
    generalize tb zs = t at *
    obtain ⟨n, k, e⟩ := t
    simp only at hle HT ⊢
    have HD : Hid (∀ w1, Below w.heap.size w w1 → SeesB lo w1 .u8 (.slice (if cap = k then ao else ao.map (·.add k)) (zs.length - k) (cap - k)) (zs.drop k)) := fun w1 hb => by
      have hr := (unhide HH).rlt
      have hl := (unhide HH).lt
      have := ((unhide HSB).below hb (by omega)).cut k (zs.length - k) (by omega)
      rwa [List.take_of_length_le (by rw [List.length_drop]; omega)] at this
    have HB : Hid (Byt (zs.drop k) ∧ (zs.drop k).length ≤ 140737488351232) := ⟨h.byt.drop k, by have := h.len; rw [List.length_drop]; omega⟩
    have HRL := hide h.rlt
    clear h
    go_enter Tryz.func123, Tryz.ntmps123
    go_wp2_with fail
    refine (unhide HT).mono ?_
    rintro er w1 ⟨x, rfl, hox, hb1⟩
    have hw1 := (unhide HH).below hb1
    have hv1 : w1.cell? ⟨R, 0, none⟩ = some (.slice ao zs.length cap) := (hb1.cell (p := ⟨R, 0, none⟩) (unhide HRL)).trans hv
    have g1 := hw1.ce
    have g2 := hw1.fr
    have hD := unhide HD w1 hb1
    have HBT := hide hb1
    have HOX : Hid (∀ u u', ((w1.setCell ⟨R, 0, none⟩ u).setCell ⟨R, 1, none⟩ u').ownsRow w.heap.size 5 1 x n.length (ints .u8 n)) := fun u u' => own_setR (own_setR hox (unhide HRL) 0 u) (unhide HRL) 1 u'
    obtain ⟨ax, cx, rfl⟩ := own_shape hox
    clear hox
    by_cases hck : cap = k
    · subst hck
      rw [if_pos rfl] at hD
      have HR := hide (hw1.set (er' := e) hD (unhide HB).1 (unhide HB).2)
      have hz0 : zs.length - cap = 0 := by omega
      have hz1 : cap - cap = 0 := by omega
      rw [hz0, hz1] at HR
      have hle2 : zs.length = cap := by omega
      clear hw1 hD hv hb1 HD HH HSB HT
      go_wp2_with fail
      go_ret
      exact ⟨.slice ax n.length cx, rfl, unhide HOX _ _, unhide HR, ((But.of (unhide HBT)).set 0 _).set 1 _⟩
    · rw [if_neg hck] at hD
      have HR := hide (hw1.set (er' := e) hD (unhide HB).1 (unhide HB).2)
      clear hw1 hD hv hb1 HD HH HSB HT
      go_wp2_with fail
      go_ret
      exact ⟨.slice ax n.length cx, rfl, unhide HOX _ _, unhide HR, ((But.of (unhide HBT)).set 0 _).set 1 _⟩
  · rw [if_neg he]
    have h1 := h.ce
    have HH := hide h
    clear h
    go_enter Tryz.func123, Tryz.ntmps123
    go_wp2_with fail
    go_ret
    exact ⟨.slice none 0 0, rfl, World.ownsRow_nil _ _ _ _, unhide HH, But.refl _ _⟩
end Go.Proofs.YtggllgimlfchhabGreat

/- Record: the reader's small parts. -/
namespace Go.Proofs.YtggllgimlfchhabGreat
open Go.RowKit
set_option maxRecDepth 100000

theorem must_true (s : RS) : s.must true = s := by simp [RS.must]
theorem must_er (s : RS) (b : Bool) (h : s.er ≠ 0) : s.must b = s := by simp [RS.must, h]
theorem must_false (s : RS) (h : s.er = 0) : s.must false = { s with er := 40 } := by simp [RS.must, h]
theorem must_r {w : World} {R lo : Nat} {s : RS} (h : RdS w R lo s) (b : Bool) :
    Calls Tryz.prog 89 #[.pointer (some ⟨R, 0, none⟩), .bool b] w fun e w' => e = .returned (.tuple #[]) ∧ RdS w' R lo (s.must b) ∧ But R w w' := by
  have h1 := h.ce
  have hf := h.fr
  have HH := hide h
  cases b
  · by_cases he : s.er = 0
    · rw [must_false s he]
      have HE := hide (h.err (er' := 40))
      rw [he] at h1
      clear h he
      go_enter Tryz.func89, Tryz.ntmps89
      go_wp2
      go_end0
      exact ⟨rfl, unhide HE, (But.refl _ _).set 1 _⟩
    · rw [must_er s _ he]
      clear h
      generalize s.er = er at h1 he
      go_enter Tryz.func89, Tryz.ntmps89
      go_wp2
      go_end0
      exact ⟨rfl, unhide HH, But.refl _ _⟩
  · rw [must_true]
    clear h
    go_enter Tryz.func89, Tryz.ntmps89
    go_wp2
    go_end0
    exact ⟨rfl, unhide HH, But.refl _ _⟩

theorem num_r {w : World} {R lo : Nat} {s : RS} (h : RdS w R lo s) :
    Calls Tryz.prog 59 #[.pointer (some ⟨R, 0, none⟩)] w fun e w' => e = .returned (.int .i64 s.num.1) ∧ RdS w' R lo s.num.2 ∧ But R w w' := by
  have HT := hide (takenNum_any h)
  clear h
  go_enter Tryz.func59, Tryz.ntmps59
  go_wp2_with fail
  refine (unhide HT).mono ?_
  rintro e w1 ⟨rfl, h1, h2⟩
  have HR := hide (And.intro h1 h2)
  clear h1 h2
  go_wp2_with fail
  go_ret
  exact ⟨rfl, unhide HR⟩
theorem blob_r {w : World} {R lo : Nat} {s : RS} (h : RdS w R lo s) :
    Calls Tryz.prog 92 #[.pointer (some ⟨R, 0, none⟩)] w fun e w' => ∃ x, e = .returned x ∧ w'.ownsRow w.heap.size 5 1 x s.blob.1.length (ints .u8 s.blob.1) ∧ RdS w' R lo s.blob.2 ∧ But R w w' := by
  have HT := hide (takenBlob_any h)
  clear h
  go_enter Tryz.func92, Tryz.ntmps92
  go_wp2_with fail
  refine (unhide HT).mono ?_
  rintro e w1 ⟨x, rfl, h0, h1, h2⟩
  obtain ⟨ax, cx, rfl⟩ := own_shape h0
  have HR := hide (And.intro h0 (And.intro h1 h2))
  clear h0 h1 h2
  go_wp2_with fail
  go_ret
  exact ⟨_, rfl, unhide HR⟩
theorem fit_r {w : World} {R lo : Nat} {s : RS} (h : RdS w R lo s) :
    Calls Tryz.prog 58 #[.pointer (some ⟨R, 0, none⟩)] w fun e w' => e = .returned (.int .i64 s.num.1) ∧ RdS w' R lo s.num.2 ∧ But R w w' := by
  have HT := hide (num_r h)
  clear h
  go_enter Tryz.func58, Tryz.ntmps58
  go_wp2_with fail
  refine (unhide HT).mono ?_
  rintro e w1 ⟨rfl, h1, h2⟩
  have HR := hide (And.intro h1 h2)
  clear h1 h2
  go_wp2_with fail
  go_ret
  exact ⟨rfl, unhide HR⟩

def w32 (n : Int) : Int := wrap32 n
theorem w32_bounds (n : Int) : -2147483648 ≤ w32 n ∧ w32 n ≤ 2147483647 := by
  unfold w32 wrap32
  omega
def RS.fit32 (s : RS) : Int × RS := (w32 s.num.1, if w32 s.num.1 = s.num.1 then s.num.2 else { s.num.2 with un := true })
theorem fit32_yes {s : RS} (h : w32 s.num.1 = s.num.1) : s.fit32 = (w32 s.num.1, s.num.2) := by unfold RS.fit32; rw [if_pos h]
theorem fit32_no {s : RS} (h : w32 s.num.1 ≠ s.num.1) : s.fit32 = (w32 s.num.1, { s.num.2 with un := true }) := by unfold RS.fit32; rw [if_neg h]
set_option maxHeartbeats 800000 in
theorem fit32_r {w : World} {R lo : Nat} {s : RS} (h : RdS w R lo s) :
    Calls Tryz.prog 125 #[.pointer (some ⟨R, 0, none⟩)] w fun e w' => e = .returned (.int .i32 s.fit32.1) ∧ RdS w' R lo s.fit32.2 ∧ But R w w' := by
  have HT := hide (num_r h)
  clear h
  by_cases he : w32 s.num.1 = s.num.1
  · rw [fit32_yes he]
    generalize s.num = p at HT he ⊢
    obtain ⟨n, s1⟩ := p
    simp only at HT he ⊢
    have hw := w32_bounds n
    have hc1 : wrap32 n = n := he
    rw [he] at hw ⊢
    have hw2 : wrap64 n = n := by unfold wrap64; omega
    clear hw he
    go_enter Tryz.func125, Tryz.ntmps125
    go_wp2_with fail
    refine (unhide HT).mono ?_
    rintro e w1 ⟨rfl, h1, h2⟩
    have HR := hide (And.intro h1 h2)
    clear h1 h2
    go_wp2
    go_ret
    exact ⟨retInt hc1, unhide HR⟩
  · rw [fit32_no he]
    generalize s.num = p at HT he ⊢
    obtain ⟨n, s1⟩ := p
    simp only at HT he ⊢
    have hw := w32_bounds n
    obtain ⟨m, hm⟩ : ∃ m, w32 n = m := ⟨_, rfl⟩
    have hc1 : wrap32 n = m := hm
    rw [hm] at hw he ⊢
    have hw2 : wrap64 m = m := by unfold wrap64; omega
    clear hw hm
    go_enter Tryz.func125, Tryz.ntmps125
    go_wp2_with fail
    refine (unhide HT).mono ?_
    rintro e w1 ⟨rfl, h1, h2⟩
    have hcu := h1.cu
    have hf := h1.fr
    have HE : Hid (RdS (w1.setCell ⟨R, 2, none⟩ (.bool true)) R lo { s1 with un := true } ∧ But R w (w1.setCell ⟨R, 2, none⟩ (.bool true))) := ⟨h1.odd, h2.set 2 _⟩
    clear h1 h2
    go_wp2
    go_ret
    exact ⟨retInt hc1, unhide HE⟩

def RS.kind (s : RS) (lo hi : Int) : Int × RS := (s.num.1, s.num.2.must (decide (lo ≤ s.num.1 ∧ s.num.1 ≤ hi)))
set_option maxHeartbeats 400000 in
theorem kind_r {w : World} {R lo : Nat} {s : RS} (h : RdS w R lo s) (a b : Int) :
    Calls Tryz.prog 57 #[.pointer (some ⟨R, 0, none⟩), .int .i64 a, .int .i64 b] w fun e w' => e = .returned (.int .i64 (s.kind a b).1) ∧ RdS w' R lo (s.kind a b).2 ∧ But R w w' := by
  have HT := hide (num_r h)
  unfold RS.kind
  clear h
  generalize s.num = p at HT ⊢
  obtain ⟨n, s1⟩ := p
  simp only at HT ⊢
  obtain ⟨bb, hbb⟩ : ∃ b', decide (a ≤ n ∧ n ≤ b) = b' := ⟨_, rfl⟩
  rw [hbb]
  go_enter Tryz.func57, Tryz.ntmps57
  go_wp2_with fail
  refine (unhide HT).mono ?_
  rintro e w1 ⟨rfl, h1, h2⟩
  have HM := hide (must_r h1 bb)
  have HB := hide h2
  clear h1 h2
  by_cases c1 : a ≤ n
  · by_cases c2 : n ≤ b
    · skip
      obtain rfl : bb = true := hbb.symm.trans (decide_eq_true ⟨c1, c2⟩)
      go_wp2_with fail
      refine (unhide HM).mono ?_
      rintro e w2 ⟨rfl, h3, h4⟩
      have HR := hide (And.intro h3 ((unhide HB).trans h4))
      clear h3 h4
      go_wp2
      go_ret
      exact ⟨rfl, unhide HR⟩
    · have c2b : decide (n ≤ b) = false := decide_eq_false c2
      obtain rfl : bb = false := hbb.symm.trans (decide_eq_false (fun h => c2 h.2))
      go_wp2_with fail
      refine (unhide HM).mono ?_
      rintro e w2 ⟨rfl, h3, h4⟩
      have HR := hide (And.intro h3 ((unhide HB).trans h4))
      clear h3 h4
      go_wp2
      go_ret
      exact ⟨rfl, unhide HR⟩
  · have c1b : decide (a ≤ n) = false := decide_eq_false c1
    obtain rfl : bb = false := hbb.symm.trans (decide_eq_false (fun h => c1 h.1))
    go_wp2_with fail
    refine (unhide HM).mono ?_
    rintro e w2 ⟨rfl, h3, h4⟩
    have HR := hide (And.intro h3 ((unhide HB).trans h4))
    clear h3 h4
    go_wp2
    go_ret
    exact ⟨rfl, unhide HR⟩
end Go.Proofs.YtggllgimlfchhabGreat

/- Record: keys, read. -/
namespace Go.Proofs.YtggllgimlfchhabGreat
open Go.RowKit
set_option maxRecDepth 100000

theorem But.same {R b : Nat} {w w' : World} (h : But R w w') {o : Obj} (hb : w.heap[b]? = some o) (hR : b ≠ R) : w'.heap[b]? = some o :=
  (h.block b (Array.getElem?_eq_some_iff.1 hb).1 hR).trans hb
theorem cell_of_heap {w : World} {b o : Nat} {cs : Array Value} {T : TypeId} (h : w.heap[b]? = some (.cells cs T)) : w.cell? ⟨b, o, none⟩ = cs[o]? := by
  simp [World.cell?, h]
theorem frozen_of_heap {w : World} {b o : Nat} {cs : Array Value} {T : TypeId} (h : w.heap[b]? = some (.cells cs T)) : w.frozen? ⟨b, o, none⟩ = false := by
  simp [World.frozen?, h]
theorem setCell_heap {w : World} {b o : Nat} {cs : Array Value} {T : TypeId} {u : Value} (h : w.heap[b]? = some (.cells cs T)) : (w.setCell ⟨b, o, none⟩ u).heap[b]? = some (.cells (cs.setIfInBounds o u) T) := by
  have hlt := (Array.getElem?_eq_some_iff.1 h).1
  have e : w.heap[b] = .cells cs T := by rw [Array.getElem?_eq_getElem hlt] at h; exact Option.some.inj h
  simp only [World.setCell]
  rw [Array.getElem?_eq_getElem (by simpa using hlt), Array.getElem_modify]
  simp [e]

theorem Rd.keep {w w' : World} {R lo : Nat} {zs : List Int} {er : Int} {un : Bool} (h : Rd w R lo zs er un) (hk : ∀ k, k = R ∨ k < lo → w'.heap[k]? = w.heap[k]?) : Rd w' R lo zs er un := by
  obtain ⟨v, h1, ao, cap, hv, hl, hn, ha⟩ := h.cb
  have c : ∀ o u, w.cell? ⟨R, o, none⟩ = some u → w'.cell? ⟨R, o, none⟩ = some u := fun o u e => (World.cell?_of_block (w := w) (hk R (.inl rfl))).trans e
  exact ⟨⟨v, c _ _ h1, ao, cap, hv, hl, hn, fun a e t ht => ⟨(World.cell?_of_block (w := w) (hk _ (.inr (ha a e t ht).2))).trans (ha a e t ht).1, (ha a e t ht).2⟩⟩, c _ _ h.ce, c _ _ h.cu, fun o => (World.frozen?_of_block (w := w) (hk R (.inl rfl))).trans (h.fr o), h.lt, h.byt, h.len⟩
theorem But.new {R b : Nat} {w w' : World} (h : But R w w') (hb : w.heap.size ≤ b) (o : Nat) (u : Value) : But R w (w'.setCell ⟨b, o, none⟩ u) :=
  ⟨h.os, h.tape, h.output, by have := h.size; simp only [World.setCell, Array.size_modify]; exact this, fun k hk hR => (Below.heap_setCell _ _ _ _ (fun e => by simp only at e; omega)).trans (h.block k hk hR)⟩
theorem Rd.other {w : World} {R lo b : Nat} {zs : List Int} {er : Int} {un : Bool} (h : Rd w R lo zs er un) (hb : R < b) (o : Nat) (u : Value) : Rd (w.setCell ⟨b, o, none⟩ u) R lo zs er un :=
  h.keep fun k hk => Below.heap_setCell _ _ _ _ (fun e => by simp only at e; have := h.lt; omega)

def RS.key (s : RS) : (Int × Int) × RS := ((s.fit32.1, s.fit32.2.num.1), s.fit32.2.num.2)
set_option maxHeartbeats 800000 in
theorem key_r {w : World} {R lo : Nat} {s : RS} (h : RdS w R lo s) :
    Calls Tryz.prog 95 #[.pointer (some ⟨R, 0, none⟩)] w fun e w' => e = .returned (.agg #[.int .i32 s.key.1.1, .int .i64 s.key.1.2]) ∧ RdS w' R lo s.key.2 ∧ But R w w' := by
  unfold RS.key
  simp only
  have hr := h.rlt
  have hal : Below w.heap.size w (w.alloc (.cells #[.int .i32 0, .int .i64 0] 91)) := (Below.refl _ _).alloc (Nat.le_refl _) _
  have HT := hide (fit32_r (h.below hal))
  have HB0 : Hid (But R w (w.alloc (.cells #[.int .i32 0, .int .i64 0] 91))) := But.of hal
  have HX : Hid ((w.alloc (.cells #[.int .i32 0, .int .i64 0] 91)).heap[w.heap.size]? = some (.cells #[.int .i32 0, .int .i64 0] 91)) := heap_alloc_new w _
  clear h hal
  generalize s.fit32 = p at HT ⊢
  obtain ⟨a, s1⟩ := p
  simp only at HT ⊢
  go_enter Tryz.func95, Tryz.ntmps95
  go_wp2_with fail
  refine (unhide HT).mono ?_
  rintro e w1 ⟨rfl, h1, h2⟩
  have HT2 := hide (num_r h1)
  have HB1 := hide ((unhide HB0).trans h2)
  have HX1 := hide (h2.same (unhide HX) (by omega))
  clear h1 h2 HT
  go_wp2_with fail
  refine (unhide HT2).mono ?_
  rintro e w2 ⟨rfl, h1, h2⟩
  have hx2 := h2.same (unhide HX1) (by omega)
  have q0 : w2.cell? ⟨w.heap.size, 0, none⟩ = some (.int .i32 0) := cell_of_heap hx2
  have q1 : w2.cell? ⟨w.heap.size, 1, none⟩ = some (.int .i64 0) := cell_of_heap hx2
  have fz : ∀ o, w2.frozen? ⟨w.heap.size, o, none⟩ = false := fun o => frozen_of_heap hx2
  have HX2 := hide hx2
  have HR2 := hide h1
  have HB2 := hide ((unhide HB1).trans h2)
  clear h1 h2 hx2 HT2
  go_wp2_with fail
  refine bodyPost_ret (results_cell_row rfl _ _ w.heap.size 91 #[.int .i32 a, .int .i64 s1.num.1] (0, 0) _ rfl (setCell_heap (setCell_heap (unhide HX2))) Tryz.underlying91 rfl (by kernel_rfl)) rfl ?_
  exact ⟨rfl, ((unhide HR2).other hr _ _).other hr _ _, ((unhide HB2).new (Nat.le_refl _) _ _).new (Nat.le_refl _) _ _⟩
end Go.Proofs.YtggllgimlfchhabGreat
