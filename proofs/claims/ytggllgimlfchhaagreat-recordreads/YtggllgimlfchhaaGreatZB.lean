/- Record: the reader's small parts. -/
import Derived.Test.YtggllgimlfchhaaGreatKZ27
namespace Go.Proofs.YtggllgimlfchhaaGreat
open Go.RowKit
set_option maxRecDepth 100000

theorem must_true (s : RS) : s.must true = s := by simp [RS.must]
theorem must_er (s : RS) (b : Bool) (h : s.er ≠ 0) : s.must b = s := by simp [RS.must, h]
theorem must_false (s : RS) (h : s.er = 0) : s.must false = { s with er := 40 } := by simp [RS.must, h]
theorem must_r {w : World} {R lo : Nat} {s : RS} (h : RdS w R lo s) (b : Bool) :
    Calls Tryz.prog 131 #[.pointer (some ⟨R, 0, none⟩), .bool b] w fun e w' => e = .returned (.tuple #[]) ∧ RdS w' R lo (s.must b) ∧ But R w w' := by
  have h1 := h.ce
  have hf := h.fr
  have HH := hide h
  cases b
  · by_cases he : s.er = 0
    · rw [must_false s he]
      have HE := hide (h.err (er' := 40))
      rw [he] at h1
      clear h he
      go_enter Tryz.func131, Tryz.ntmps131
      go_wp2
      go_end0
      exact ⟨rfl, unhide HE, (But.refl _ _).set 1 _⟩
    · rw [must_er s _ he]
      clear h
      generalize s.er = er at h1 he
      go_enter Tryz.func131, Tryz.ntmps131
      go_wp2
      go_end0
      exact ⟨rfl, unhide HH, But.refl _ _⟩
  · rw [must_true]
    clear h
    go_enter Tryz.func131, Tryz.ntmps131
    go_wp2
    go_end0
    exact ⟨rfl, unhide HH, But.refl _ _⟩

theorem num_r {w : World} {R lo : Nat} {s : RS} (h : RdS w R lo s) :
    Calls Tryz.prog 89 #[.pointer (some ⟨R, 0, none⟩)] w fun e w' => e = .returned (.int .i64 s.num.1) ∧ RdS w' R lo s.num.2 ∧ But R w w' := by
  have HT := hide (takenNum_any h)
  clear h
  go_enter Tryz.func89, Tryz.ntmps89
  go_wp2_with fail
  refine (unhide HT).mono ?_
  rintro e w1 ⟨rfl, h1, h2⟩
  have HR := hide (And.intro h1 h2)
  clear h1 h2
  go_wp2_with fail
  go_ret
  exact ⟨rfl, unhide HR⟩
theorem blob_r {w : World} {R lo : Nat} {s : RS} (h : RdS w R lo s) :
    Calls Tryz.prog 134 #[.pointer (some ⟨R, 0, none⟩)] w fun e w' => ∃ x, e = .returned x ∧ w'.ownsRow w.heap.size 5 1 x s.blob.1.length (ints .u8 s.blob.1) ∧ RdS w' R lo s.blob.2 ∧ But R w w' := by
  have HT := hide (takenBlob_any h)
  clear h
  go_enter Tryz.func134, Tryz.ntmps134
  go_wp2_with fail
  refine (unhide HT).mono ?_
  rintro e w1 ⟨x, rfl, h0, h1, h2⟩
  obtain ⟨ax, cx, rfl⟩ := own_shape h0
  have HR := hide (And.intro h0 (And.intro h1 h2))
  clear h0 h1 h2
  go_wp2_with fail
  go_ret
  exact ⟨_, rfl, unhide HR⟩
theorem fit_r {w : World} {R lo : Nat} {s : RS} (h : RdS w R lo s) :
    Calls Tryz.prog 88 #[.pointer (some ⟨R, 0, none⟩)] w fun e w' => e = .returned (.int .i64 s.num.1) ∧ RdS w' R lo s.num.2 ∧ But R w w' := by
  have HT := hide (num_r h)
  clear h
  go_enter Tryz.func88, Tryz.ntmps88
  go_wp2_with fail
  refine (unhide HT).mono ?_
  rintro e w1 ⟨rfl, h1, h2⟩
  have HR := hide (And.intro h1 h2)
  clear h1 h2
  go_wp2_with fail
  go_ret
  exact ⟨rfl, unhide HR⟩

def w32 (n : Int) : Int := wrap32 n
theorem w32_bounds (n : Int) : -2147483648 ≤ w32 n ∧ w32 n ≤ 2147483647 := by
  unfold w32 wrap32
  omega
def RS.fit32 (s : RS) : Int × RS := (w32 s.num.1, if w32 s.num.1 = s.num.1 then s.num.2 else { s.num.2 with un := true })
theorem fit32_yes {s : RS} (h : w32 s.num.1 = s.num.1) : s.fit32 = (w32 s.num.1, s.num.2) := by unfold RS.fit32; rw [if_pos h]
theorem fit32_no {s : RS} (h : w32 s.num.1 ≠ s.num.1) : s.fit32 = (w32 s.num.1, { s.num.2 with un := true }) := by unfold RS.fit32; rw [if_neg h]
set_option maxHeartbeats 800000 in
theorem fit32_r {w : World} {R lo : Nat} {s : RS} (h : RdS w R lo s) :
    Calls Tryz.prog 159 #[.pointer (some ⟨R, 0, none⟩)] w fun e w' => e = .returned (.int .i32 s.fit32.1) ∧ RdS w' R lo s.fit32.2 ∧ But R w w' := by
  have HT := hide (num_r h)
  clear h
  by_cases he : w32 s.num.1 = s.num.1
  · rw [fit32_yes he]
    generalize s.num = p at HT he ⊢
    obtain ⟨n, s1⟩ := p
    simp only at HT he ⊢
    have hw := w32_bounds n
    have hc1 : wrap32 n = n := he
    rw [he] at hw ⊢
    have hw2 : wrap64 n = n := by unfold wrap64; omega
    clear hw he
    go_enter Tryz.func159, Tryz.ntmps159
    go_wp2_with fail
    refine (unhide HT).mono ?_
    rintro e w1 ⟨rfl, h1, h2⟩
    have HR := hide (And.intro h1 h2)
    clear h1 h2
    go_wp2
    go_ret
    exact ⟨retInt hc1, unhide HR⟩
  · rw [fit32_no he]
    generalize s.num = p at HT he ⊢
    obtain ⟨n, s1⟩ := p
    simp only at HT he ⊢
    have hw := w32_bounds n
    obtain ⟨m, hm⟩ : ∃ m, w32 n = m := ⟨_, rfl⟩
    have hc1 : wrap32 n = m := hm
    rw [hm] at hw he ⊢
    have hw2 : wrap64 m = m := by unfold wrap64; omega
    clear hw hm
    go_enter Tryz.func159, Tryz.ntmps159
    go_wp2_with fail
    refine (unhide HT).mono ?_
    rintro e w1 ⟨rfl, h1, h2⟩
    have hcu := h1.cu
    have hf := h1.fr
    have HE : Hid (RdS (w1.setCell ⟨R, 2, none⟩ (.bool true)) R lo { s1 with un := true } ∧ But R w (w1.setCell ⟨R, 2, none⟩ (.bool true))) := ⟨h1.odd, h2.set 2 _⟩
    clear h1 h2
    go_wp2
    go_ret
    exact ⟨retInt hc1, unhide HE⟩

def RS.kind (s : RS) (lo hi : Int) : Int × RS := (s.num.1, s.num.2.must (decide (lo ≤ s.num.1 ∧ s.num.1 ≤ hi)))
set_option maxHeartbeats 400000 in
theorem kind_r {w : World} {R lo : Nat} {s : RS} (h : RdS w R lo s) (a b : Int) :
    Calls Tryz.prog 87 #[.pointer (some ⟨R, 0, none⟩), .int .i64 a, .int .i64 b] w fun e w' => e = .returned (.int .i64 (s.kind a b).1) ∧ RdS w' R lo (s.kind a b).2 ∧ But R w w' := by
  have HT := hide (num_r h)
  unfold RS.kind
  clear h
  generalize s.num = p at HT ⊢
  obtain ⟨n, s1⟩ := p
  simp only at HT ⊢
  obtain ⟨bb, hbb⟩ : ∃ b', decide (a ≤ n ∧ n ≤ b) = b' := ⟨_, rfl⟩
  rw [hbb]
  go_enter Tryz.func87, Tryz.ntmps87
  go_wp2_with fail
  refine (unhide HT).mono ?_
  rintro e w1 ⟨rfl, h1, h2⟩
  have HM := hide (must_r h1 bb)
  have HB := hide h2
  clear h1 h2
  by_cases c1 : a ≤ n
  · by_cases c2 : n ≤ b
    · skip
      obtain rfl : bb = true := hbb.symm.trans (decide_eq_true ⟨c1, c2⟩)
      go_wp2_with fail
      refine (unhide HM).mono ?_
      rintro e w2 ⟨rfl, h3, h4⟩
      have HR := hide (And.intro h3 ((unhide HB).trans h4))
      clear h3 h4
      go_wp2
      go_ret
      exact ⟨rfl, unhide HR⟩
    · have c2b : decide (n ≤ b) = false := decide_eq_false c2
      obtain rfl : bb = false := hbb.symm.trans (decide_eq_false (fun h => c2 h.2))
      go_wp2_with fail
      refine (unhide HM).mono ?_
      rintro e w2 ⟨rfl, h3, h4⟩
      have HR := hide (And.intro h3 ((unhide HB).trans h4))
      clear h3 h4
      go_wp2
      go_ret
      exact ⟨rfl, unhide HR⟩
  · have c1b : decide (a ≤ n) = false := decide_eq_false c1
    obtain rfl : bb = false := hbb.symm.trans (decide_eq_false (fun h => c1 h.1))
    go_wp2_with fail
    refine (unhide HM).mono ?_
    rintro e w2 ⟨rfl, h3, h4⟩
    have HR := hide (And.intro h3 ((unhide HB).trans h4))
    clear h3 h4
    go_wp2
    go_ret
    exact ⟨rfl, unhide HR⟩
end Go.Proofs.YtggllgimlfchhaaGreat
