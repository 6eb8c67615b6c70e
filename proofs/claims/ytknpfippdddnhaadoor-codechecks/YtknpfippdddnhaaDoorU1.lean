/- The document's fits. -/
import Derived.Test.YtknpfippdddnhaaDoorU0
namespace Go.Proofs.YtknpfippdddnhaaDoor
open Go.RowKit
set_option maxRecDepth 100000

theorem rfits_op (d o a b m : Int) (w : World) (h : ¬ (0 ≤ o ∧ o < 28)) : Calls Tryd.prog 57 #[iV d o a b m] w fun e w' => e = .returned (.int .i64 130) ∧ Grew w w' := by
  have HS := hide (fun w => rsize_any o w)
  rw [sz_none h] at HS
  have HG := hide (grew_alloc (grew_refl w) (.cells #[.int .i64 d, .int .i64 o, .int .i64 a, .int .i64 b, .int .i64 m] 28))
  clear h
  go_enter Tryd.func57, Tryd.ntmps57
  go_wp2_with (go_at_call 26; refine (unhide HS _).mono ?_; rintro e w2 ⟨rfl, rfl⟩)
  go_ret
  exact ⟨rfl, unhide HG⟩
set_option maxHeartbeats 6400000 in
theorem rfits00 (d o a b m : Int) (w : World) (h0 : 0 ≤ o) (h1 : o < 28) (hr : rg o = 0) (hd : wd o = 0) : Calls Tryd.prog 57 #[iV d o a b m] w fun e w' => e = .returned (.int .i64 (putE ⟨d, o, a, b, m⟩)) ∧ Grew w w' := by
  have HS := hide (fun w => rsize_any o w)
  have HF := hide (fun w => first_any o w h0 h1)
  have HT := hide (fun w => two_any o w h0 h1)
  have HD := hide (fun w => rwide_any o w h0 h1)
  have HI0 := hide (fun w hl1 hl2 => rindex_any d o a b m w h0 h1 hl1 hl2)
  have hs := (op_facts h0 h1).2.2.1
  rw [hr, hd] at hs
  rw [hr] at HF HT
  rw [hd] at HD
  rw [hs] at HS
  simp only [show decide (1 ≤ 0) = false from rfl] at HF
  simp only [show decide (2 ≤ 0) = false from rfl] at HT
  simp only [show (1 + ((0 : Nat) : Int) + ((0 : Nat) : Int)) = 1 from rfl] at HS
  simp only [show (((0 : Nat) : Int)) = 0 from rfl] at HD
  have HG := hide (grew_alloc (grew_refl w) (.cells #[.int .i64 d, .int .i64 o, .int .i64 a, .int .i64 b, .int .i64 m] 28))
  have HX : Hid (∀ z, Grew (w.alloc (.cells #[.int .i64 d, .int .i64 o, .int .i64 a, .int .i64 b, .int .i64 m] 28)) z → z.heap[w.heap.size]? = some (.cells #[.int .i64 d, .int .i64 o, .int .i64 a, .int .i64 b, .int .i64 m] 28)) := fun z g => (g.below.block _ (by simp)).trans (heap_alloc_new w _)
  have hE1 : lnn ⟨d, o, a, b, m⟩ = false → putE ⟨d, o, a, b, m⟩ = 130 := fun h => if_neg (fun z => by rw [h] at z; exact absurd z.2 (by decide))
  have hE2 : lnn ⟨d, o, a, b, m⟩ = true → sd ⟨d, o, a, b, m⟩ = false → putE ⟨d, o, a, b, m⟩ = 132 := fun h h2 => by unfold putE; rw [if_pos ⟨⟨h0, h1⟩, h⟩, h2]; rfl
  have hE3 : lnn ⟨d, o, a, b, m⟩ = true → sd ⟨d, o, a, b, m⟩ = true → fit ⟨d, o, a, b, m⟩ = false → putE ⟨d, o, a, b, m⟩ = 130 := fun h h2 h3 => by unfold putE; rw [if_pos ⟨⟨h0, h1⟩, h⟩, h2, h3]; rfl
  have hE4 : lnn ⟨d, o, a, b, m⟩ = true → sd ⟨d, o, a, b, m⟩ = true → fit ⟨d, o, a, b, m⟩ = true → putE ⟨d, o, a, b, m⟩ = 0 := fun h h2 h3 => by unfold putE; rw [if_pos ⟨⟨h0, h1⟩, h⟩, h2, h3]; rfl
  have hln : lnn ⟨d, o, a, b, m⟩ = decide ((a = 0) ∧ (b = 0) ∧ (m = 0)) := by
    unfold lnn
    simp only [hr, hd]
    simp
  generalize putE ⟨d, o, a, b, m⟩ = E at *
  generalize hL : lnn ⟨d, o, a, b, m⟩ = L at *
  by_cases ha : a = 0
  case neg =>
    obtain rfl : E = 130 := hE1 (by rw [hln]; simp [ha])
    have ka : (a != 0) = true := by simpa using ha
    clear hE1 hE2 hE3 hE4 hln hL ha HI0
    go_enter Tryd.func57, Tryd.ntmps57
    go_wp2_with (first
      | (go_at_call 26; refine (unhide HS _).mono ?_; rintro e w2 ⟨rfl, rfl⟩)
      | (go_at_call 43; refine (unhide HF _).mono ?_; rintro e w2 ⟨rfl, rfl⟩)
      | (go_at_call 44; refine (unhide HT _).mono ?_; rintro e w2 ⟨rfl, rfl⟩)
      | (go_at_call 45; refine (unhide HD _).mono ?_; rintro e w2 ⟨rfl, rfl⟩)
      | (go_at_call 46; refine (unhide HI _).mono ?_; rintro e z1 ⟨rfl, g1⟩; have HG1 := hide (grew_trans (unhide HG) g1); have cx := unhide HX _ g1; obtain ⟨c0, c1, c2, c3, c4⟩ := cells5 cx; clear cx g1))
    go_ret
    exact ⟨rfl, unhide HG⟩
  subst ha
  by_cases hb : b = 0
  case neg =>
    obtain rfl : E = 130 := hE1 (by rw [hln]; simp [hb])
    have kb : (b != 0) = true := by simpa using hb
    clear hE1 hE2 hE3 hE4 hln hL hb HI0
    go_enter Tryd.func57, Tryd.ntmps57
    go_wp2_with (first
      | (go_at_call 26; refine (unhide HS _).mono ?_; rintro e w2 ⟨rfl, rfl⟩)
      | (go_at_call 43; refine (unhide HF _).mono ?_; rintro e w2 ⟨rfl, rfl⟩)
      | (go_at_call 44; refine (unhide HT _).mono ?_; rintro e w2 ⟨rfl, rfl⟩)
      | (go_at_call 45; refine (unhide HD _).mono ?_; rintro e w2 ⟨rfl, rfl⟩)
      | (go_at_call 46; refine (unhide HI _).mono ?_; rintro e z1 ⟨rfl, g1⟩; have HG1 := hide (grew_trans (unhide HG) g1); have cx := unhide HX _ g1; obtain ⟨c0, c1, c2, c3, c4⟩ := cells5 cx; clear cx g1))
    go_ret
    exact ⟨rfl, unhide HG⟩
  subst hb
  by_cases hm : m = 0
  case neg =>
    obtain rfl : E = 130 := hE1 (by rw [hln]; simp [hm])
    have km : (m != 0) = true := by simpa using hm
    clear hE1 hE2 hE3 hE4 hln hL hm HI0
    go_enter Tryd.func57, Tryd.ntmps57
    go_wp2_with (first
      | (go_at_call 26; refine (unhide HS _).mono ?_; rintro e w2 ⟨rfl, rfl⟩)
      | (go_at_call 43; refine (unhide HF _).mono ?_; rintro e w2 ⟨rfl, rfl⟩)
      | (go_at_call 44; refine (unhide HT _).mono ?_; rintro e w2 ⟨rfl, rfl⟩)
      | (go_at_call 45; refine (unhide HD _).mono ?_; rintro e w2 ⟨rfl, rfl⟩)
      | (go_at_call 46; refine (unhide HI _).mono ?_; rintro e z1 ⟨rfl, g1⟩; have HG1 := hide (grew_trans (unhide HG) g1); have cx := unhide HX _ g1; obtain ⟨c0, c1, c2, c3, c4⟩ := cells5 cx; clear cx g1))
    go_ret
    exact ⟨rfl, unhide HG⟩
  subst hm
  have hL1 : L = true := by rw [hln]; simp
  have HI := hide (fun w => unhide HI0 w (fun z => rfl) (fun z => rfl))
  by_cases hsd : sd ⟨d, o, 0, 0, 0⟩ = true
  case neg =>
    have hsf : sd ⟨d, o, 0, 0, 0⟩ = false := by simpa using hsd
    obtain rfl : E = 132 := hE2 hL1 hsf
    rw [if_neg hsd] at HI
    clear hE1 hE2 hE3 hE4 hln hL hsd hsf HI0 hL1
    go_enter Tryd.func57, Tryd.ntmps57
    go_wp2_with (first
      | (go_at_call 26; refine (unhide HS _).mono ?_; rintro e w2 ⟨rfl, rfl⟩)
      | (go_at_call 43; refine (unhide HF _).mono ?_; rintro e w2 ⟨rfl, rfl⟩)
      | (go_at_call 44; refine (unhide HT _).mono ?_; rintro e w2 ⟨rfl, rfl⟩)
      | (go_at_call 45; refine (unhide HD _).mono ?_; rintro e w2 ⟨rfl, rfl⟩)
      | (go_at_call 46; refine (unhide HI _).mono ?_; rintro e z1 ⟨rfl, g1⟩; have HG1 := hide (grew_trans (unhide HG) g1); have cx := unhide HX _ g1; obtain ⟨c0, c1, c2, c3, c4⟩ := cells5 cx; clear cx g1))
    go_ret
    exact ⟨rfl, unhide HG1⟩
  rw [if_pos hsd] at HI
  obtain rfl : E = 0 := hE4 hL1 hsd (by unfold fit; simp [hd])
  clear hE1 hE2 hE3 hE4 hln hL hsd HI0 hL1
  go_enter Tryd.func57, Tryd.ntmps57
  go_wp2_with (first
    | (go_at_call 26; refine (unhide HS _).mono ?_; rintro e w2 ⟨rfl, rfl⟩)
    | (go_at_call 43; refine (unhide HF _).mono ?_; rintro e w2 ⟨rfl, rfl⟩)
    | (go_at_call 44; refine (unhide HT _).mono ?_; rintro e w2 ⟨rfl, rfl⟩)
    | (go_at_call 45; refine (unhide HD _).mono ?_; rintro e w2 ⟨rfl, rfl⟩)
    | (go_at_call 46; refine (unhide HI _).mono ?_; rintro e z1 ⟨rfl, g1⟩; have HG1 := hide (grew_trans (unhide HG) g1); have cx := unhide HX _ g1; obtain ⟨c0, c1, c2, c3, c4⟩ := cells5 cx; clear cx g1))
  go_ret
  exact ⟨rfl, unhide HG1⟩
set_option maxHeartbeats 6400000 in
theorem rfits01 (d o a b m : Int) (w : World) (h0 : 0 ≤ o) (h1 : o < 28) (hr : rg o = 0) (hd : wd o = 1) : Calls Tryd.prog 57 #[iV d o a b m] w fun e w' => e = .returned (.int .i64 (putE ⟨d, o, a, b, m⟩)) ∧ Grew w w' := by
  have HS := hide (fun w => rsize_any o w)
  have HF := hide (fun w => first_any o w h0 h1)
  have HT := hide (fun w => two_any o w h0 h1)
  have HD := hide (fun w => rwide_any o w h0 h1)
  have HI0 := hide (fun w hl1 hl2 => rindex_any d o a b m w h0 h1 hl1 hl2)
  have hs := (op_facts h0 h1).2.2.1
  rw [hr, hd] at hs
  rw [hr] at HF HT
  rw [hd] at HD
  rw [hs] at HS
  simp only [show decide (1 ≤ 0) = false from rfl] at HF
  simp only [show decide (2 ≤ 0) = false from rfl] at HT
  simp only [show (1 + ((0 : Nat) : Int) + ((1 : Nat) : Int)) = 2 from rfl] at HS
  simp only [show (((1 : Nat) : Int)) = 1 from rfl] at HD
  have HG := hide (grew_alloc (grew_refl w) (.cells #[.int .i64 d, .int .i64 o, .int .i64 a, .int .i64 b, .int .i64 m] 28))
  have HX : Hid (∀ z, Grew (w.alloc (.cells #[.int .i64 d, .int .i64 o, .int .i64 a, .int .i64 b, .int .i64 m] 28)) z → z.heap[w.heap.size]? = some (.cells #[.int .i64 d, .int .i64 o, .int .i64 a, .int .i64 b, .int .i64 m] 28)) := fun z g => (g.below.block _ (by simp)).trans (heap_alloc_new w _)
  have hE1 : lnn ⟨d, o, a, b, m⟩ = false → putE ⟨d, o, a, b, m⟩ = 130 := fun h => if_neg (fun z => by rw [h] at z; exact absurd z.2 (by decide))
  have hE2 : lnn ⟨d, o, a, b, m⟩ = true → sd ⟨d, o, a, b, m⟩ = false → putE ⟨d, o, a, b, m⟩ = 132 := fun h h2 => by unfold putE; rw [if_pos ⟨⟨h0, h1⟩, h⟩, h2]; rfl
  have hE3 : lnn ⟨d, o, a, b, m⟩ = true → sd ⟨d, o, a, b, m⟩ = true → fit ⟨d, o, a, b, m⟩ = false → putE ⟨d, o, a, b, m⟩ = 130 := fun h h2 h3 => by unfold putE; rw [if_pos ⟨⟨h0, h1⟩, h⟩, h2, h3]; rfl
  have hE4 : lnn ⟨d, o, a, b, m⟩ = true → sd ⟨d, o, a, b, m⟩ = true → fit ⟨d, o, a, b, m⟩ = true → putE ⟨d, o, a, b, m⟩ = 0 := fun h h2 h3 => by unfold putE; rw [if_pos ⟨⟨h0, h1⟩, h⟩, h2, h3]; rfl
  have hln : lnn ⟨d, o, a, b, m⟩ = decide ((a = 0) ∧ (b = 0) ∧ (True)) := by
    unfold lnn
    simp only [hr, hd]
    simp
  generalize putE ⟨d, o, a, b, m⟩ = E at *
  generalize hL : lnn ⟨d, o, a, b, m⟩ = L at *
  by_cases ha : a = 0
  case neg =>
    obtain rfl : E = 130 := hE1 (by rw [hln]; simp [ha])
    have ka : (a != 0) = true := by simpa using ha
    clear hE1 hE2 hE3 hE4 hln hL ha HI0
    go_enter Tryd.func57, Tryd.ntmps57
    go_wp2_with (first
      | (go_at_call 26; refine (unhide HS _).mono ?_; rintro e w2 ⟨rfl, rfl⟩)
      | (go_at_call 43; refine (unhide HF _).mono ?_; rintro e w2 ⟨rfl, rfl⟩)
      | (go_at_call 44; refine (unhide HT _).mono ?_; rintro e w2 ⟨rfl, rfl⟩)
      | (go_at_call 45; refine (unhide HD _).mono ?_; rintro e w2 ⟨rfl, rfl⟩)
      | (go_at_call 46; refine (unhide HI _).mono ?_; rintro e z1 ⟨rfl, g1⟩; have HG1 := hide (grew_trans (unhide HG) g1); have cx := unhide HX _ g1; obtain ⟨c0, c1, c2, c3, c4⟩ := cells5 cx; clear cx g1))
    go_ret
    exact ⟨rfl, unhide HG⟩
  subst ha
  by_cases hb : b = 0
  case neg =>
    obtain rfl : E = 130 := hE1 (by rw [hln]; simp [hb])
    have kb : (b != 0) = true := by simpa using hb
    clear hE1 hE2 hE3 hE4 hln hL hb HI0
    go_enter Tryd.func57, Tryd.ntmps57
    go_wp2_with (first
      | (go_at_call 26; refine (unhide HS _).mono ?_; rintro e w2 ⟨rfl, rfl⟩)
      | (go_at_call 43; refine (unhide HF _).mono ?_; rintro e w2 ⟨rfl, rfl⟩)
      | (go_at_call 44; refine (unhide HT _).mono ?_; rintro e w2 ⟨rfl, rfl⟩)
      | (go_at_call 45; refine (unhide HD _).mono ?_; rintro e w2 ⟨rfl, rfl⟩)
      | (go_at_call 46; refine (unhide HI _).mono ?_; rintro e z1 ⟨rfl, g1⟩; have HG1 := hide (grew_trans (unhide HG) g1); have cx := unhide HX _ g1; obtain ⟨c0, c1, c2, c3, c4⟩ := cells5 cx; clear cx g1))
    go_ret
    exact ⟨rfl, unhide HG⟩
  subst hb
  have hL1 : L = true := by rw [hln]; simp
  have HI := hide (fun w => unhide HI0 w (fun z => rfl) (fun z => rfl))
  by_cases hsd : sd ⟨d, o, 0, 0, m⟩ = true
  case neg =>
    have hsf : sd ⟨d, o, 0, 0, m⟩ = false := by simpa using hsd
    obtain rfl : E = 132 := hE2 hL1 hsf
    rw [if_neg hsd] at HI
    clear hE1 hE2 hE3 hE4 hln hL hsd hsf HI0 hL1
    go_enter Tryd.func57, Tryd.ntmps57
    go_wp2_with (first
      | (go_at_call 26; refine (unhide HS _).mono ?_; rintro e w2 ⟨rfl, rfl⟩)
      | (go_at_call 43; refine (unhide HF _).mono ?_; rintro e w2 ⟨rfl, rfl⟩)
      | (go_at_call 44; refine (unhide HT _).mono ?_; rintro e w2 ⟨rfl, rfl⟩)
      | (go_at_call 45; refine (unhide HD _).mono ?_; rintro e w2 ⟨rfl, rfl⟩)
      | (go_at_call 46; refine (unhide HI _).mono ?_; rintro e z1 ⟨rfl, g1⟩; have HG1 := hide (grew_trans (unhide HG) g1); have cx := unhide HX _ g1; obtain ⟨c0, c1, c2, c3, c4⟩ := cells5 cx; clear cx g1))
    go_ret
    exact ⟨rfl, unhide HG1⟩
  rw [if_pos hsd] at HI
  have ho : o ≠ 1 := fun z => by subst z; exact absurd hd (by decide)
  have ko : (o == 1) = false := by simpa using ho
  by_cases hlo : m < 0
  case pos =>
    obtain rfl : E = 130 := hE3 hL1 hsd (by unfold fit; simp [hd, ho]; omega)
    have kl : decide (m < 0) = true := decide_eq_true hlo
    clear hE1 hE2 hE3 hE4 hln hL hsd HI0 hL1 hlo
    go_enter Tryd.func57, Tryd.ntmps57
    go_wp2_with (first
      | (go_at_call 26; refine (unhide HS _).mono ?_; rintro e w2 ⟨rfl, rfl⟩)
      | (go_at_call 43; refine (unhide HF _).mono ?_; rintro e w2 ⟨rfl, rfl⟩)
      | (go_at_call 44; refine (unhide HT _).mono ?_; rintro e w2 ⟨rfl, rfl⟩)
      | (go_at_call 45; refine (unhide HD _).mono ?_; rintro e w2 ⟨rfl, rfl⟩)
      | (go_at_call 46; refine (unhide HI _).mono ?_; rintro e z1 ⟨rfl, g1⟩; have HG1 := hide (grew_trans (unhide HG) g1); have cx := unhide HX _ g1; obtain ⟨c0, c1, c2, c3, c4⟩ := cells5 cx; clear cx g1))
    go_ret
    exact ⟨rfl, unhide HG1⟩
  have kl : decide (m < 0) = false := decide_eq_false hlo
  by_cases hhi : m > 255
  case pos =>
    obtain rfl : E = 130 := hE3 hL1 hsd (by unfold fit; simp [hd, ho]; omega)
    have kh : decide (m > 255) = true := decide_eq_true hhi
    have kh2 : decide (255 < m) = true := decide_eq_true hhi
    clear hE1 hE2 hE3 hE4 hln hL hsd HI0 hL1 hlo hhi
    go_enter Tryd.func57, Tryd.ntmps57
    go_wp2_with (first
      | (go_at_call 26; refine (unhide HS _).mono ?_; rintro e w2 ⟨rfl, rfl⟩)
      | (go_at_call 43; refine (unhide HF _).mono ?_; rintro e w2 ⟨rfl, rfl⟩)
      | (go_at_call 44; refine (unhide HT _).mono ?_; rintro e w2 ⟨rfl, rfl⟩)
      | (go_at_call 45; refine (unhide HD _).mono ?_; rintro e w2 ⟨rfl, rfl⟩)
      | (go_at_call 46; refine (unhide HI _).mono ?_; rintro e z1 ⟨rfl, g1⟩; have HG1 := hide (grew_trans (unhide HG) g1); have cx := unhide HX _ g1; obtain ⟨c0, c1, c2, c3, c4⟩ := cells5 cx; clear cx g1))
    go_ret
    exact ⟨rfl, unhide HG1⟩
  have kh : decide (m > 255) = false := decide_eq_false hhi
  have kh2 : decide (255 < m) = false := decide_eq_false hhi
  obtain rfl : E = 0 := hE4 hL1 hsd (by unfold fit; simp [hd, ho]; omega)
  clear hE1 hE2 hE3 hE4 hln hL hsd HI0 hL1 hlo hhi
  go_enter Tryd.func57, Tryd.ntmps57
  go_wp2_with (first
    | (go_at_call 26; refine (unhide HS _).mono ?_; rintro e w2 ⟨rfl, rfl⟩)
    | (go_at_call 43; refine (unhide HF _).mono ?_; rintro e w2 ⟨rfl, rfl⟩)
    | (go_at_call 44; refine (unhide HT _).mono ?_; rintro e w2 ⟨rfl, rfl⟩)
    | (go_at_call 45; refine (unhide HD _).mono ?_; rintro e w2 ⟨rfl, rfl⟩)
    | (go_at_call 46; refine (unhide HI _).mono ?_; rintro e z1 ⟨rfl, g1⟩; have HG1 := hide (grew_trans (unhide HG) g1); have cx := unhide HX _ g1; obtain ⟨c0, c1, c2, c3, c4⟩ := cells5 cx; clear cx g1))
  go_ret
  exact ⟨rfl, unhide HG1⟩
set_option maxHeartbeats 6400000 in
theorem rfits02 (d o a b m : Int) (w : World) (h0 : 0 ≤ o) (h1 : o < 28) (hr : rg o = 0) (hd : wd o = 2) : Calls Tryd.prog 57 #[iV d o a b m] w fun e w' => e = .returned (.int .i64 (putE ⟨d, o, a, b, m⟩)) ∧ Grew w w' := by
  have HS := hide (fun w => rsize_any o w)
  have HF := hide (fun w => first_any o w h0 h1)
  have HT := hide (fun w => two_any o w h0 h1)
  have HD := hide (fun w => rwide_any o w h0 h1)
  have HI0 := hide (fun w hl1 hl2 => rindex_any d o a b m w h0 h1 hl1 hl2)
  have hs := (op_facts h0 h1).2.2.1
  rw [hr, hd] at hs
  rw [hr] at HF HT
  rw [hd] at HD
  rw [hs] at HS
  simp only [show decide (1 ≤ 0) = false from rfl] at HF
  simp only [show decide (2 ≤ 0) = false from rfl] at HT
  simp only [show (1 + ((0 : Nat) : Int) + ((2 : Nat) : Int)) = 3 from rfl] at HS
  simp only [show (((2 : Nat) : Int)) = 2 from rfl] at HD
  have HG := hide (grew_alloc (grew_refl w) (.cells #[.int .i64 d, .int .i64 o, .int .i64 a, .int .i64 b, .int .i64 m] 28))
  have HX : Hid (∀ z, Grew (w.alloc (.cells #[.int .i64 d, .int .i64 o, .int .i64 a, .int .i64 b, .int .i64 m] 28)) z → z.heap[w.heap.size]? = some (.cells #[.int .i64 d, .int .i64 o, .int .i64 a, .int .i64 b, .int .i64 m] 28)) := fun z g => (g.below.block _ (by simp)).trans (heap_alloc_new w _)
  have hE1 : lnn ⟨d, o, a, b, m⟩ = false → putE ⟨d, o, a, b, m⟩ = 130 := fun h => if_neg (fun z => by rw [h] at z; exact absurd z.2 (by decide))
  have hE2 : lnn ⟨d, o, a, b, m⟩ = true → sd ⟨d, o, a, b, m⟩ = false → putE ⟨d, o, a, b, m⟩ = 132 := fun h h2 => by unfold putE; rw [if_pos ⟨⟨h0, h1⟩, h⟩, h2]; rfl
  have hE3 : lnn ⟨d, o, a, b, m⟩ = true → sd ⟨d, o, a, b, m⟩ = true → fit ⟨d, o, a, b, m⟩ = false → putE ⟨d, o, a, b, m⟩ = 130 := fun h h2 h3 => by unfold putE; rw [if_pos ⟨⟨h0, h1⟩, h⟩, h2, h3]; rfl
  have hE4 : lnn ⟨d, o, a, b, m⟩ = true → sd ⟨d, o, a, b, m⟩ = true → fit ⟨d, o, a, b, m⟩ = true → putE ⟨d, o, a, b, m⟩ = 0 := fun h h2 h3 => by unfold putE; rw [if_pos ⟨⟨h0, h1⟩, h⟩, h2, h3]; rfl
  have hln : lnn ⟨d, o, a, b, m⟩ = decide ((a = 0) ∧ (b = 0) ∧ (True)) := by
    unfold lnn
    simp only [hr, hd]
    simp
  generalize putE ⟨d, o, a, b, m⟩ = E at *
  generalize hL : lnn ⟨d, o, a, b, m⟩ = L at *
  by_cases ha : a = 0
  case neg =>
    obtain rfl : E = 130 := hE1 (by rw [hln]; simp [ha])
    have ka : (a != 0) = true := by simpa using ha
    clear hE1 hE2 hE3 hE4 hln hL ha HI0
    go_enter Tryd.func57, Tryd.ntmps57
    go_wp2_with (first
      | (go_at_call 26; refine (unhide HS _).mono ?_; rintro e w2 ⟨rfl, rfl⟩)
      | (go_at_call 43; refine (unhide HF _).mono ?_; rintro e w2 ⟨rfl, rfl⟩)
      | (go_at_call 44; refine (unhide HT _).mono ?_; rintro e w2 ⟨rfl, rfl⟩)
      | (go_at_call 45; refine (unhide HD _).mono ?_; rintro e w2 ⟨rfl, rfl⟩)
      | (go_at_call 46; refine (unhide HI _).mono ?_; rintro e z1 ⟨rfl, g1⟩; have HG1 := hide (grew_trans (unhide HG) g1); have cx := unhide HX _ g1; obtain ⟨c0, c1, c2, c3, c4⟩ := cells5 cx; clear cx g1))
    go_ret
    exact ⟨rfl, unhide HG⟩
  subst ha
  by_cases hb : b = 0
  case neg =>
    obtain rfl : E = 130 := hE1 (by rw [hln]; simp [hb])
    have kb : (b != 0) = true := by simpa using hb
    clear hE1 hE2 hE3 hE4 hln hL hb HI0
    go_enter Tryd.func57, Tryd.ntmps57
    go_wp2_with (first
      | (go_at_call 26; refine (unhide HS _).mono ?_; rintro e w2 ⟨rfl, rfl⟩)
      | (go_at_call 43; refine (unhide HF _).mono ?_; rintro e w2 ⟨rfl, rfl⟩)
      | (go_at_call 44; refine (unhide HT _).mono ?_; rintro e w2 ⟨rfl, rfl⟩)
      | (go_at_call 45; refine (unhide HD _).mono ?_; rintro e w2 ⟨rfl, rfl⟩)
      | (go_at_call 46; refine (unhide HI _).mono ?_; rintro e z1 ⟨rfl, g1⟩; have HG1 := hide (grew_trans (unhide HG) g1); have cx := unhide HX _ g1; obtain ⟨c0, c1, c2, c3, c4⟩ := cells5 cx; clear cx g1))
    go_ret
    exact ⟨rfl, unhide HG⟩
  subst hb
  have hL1 : L = true := by rw [hln]; simp
  have HI := hide (fun w => unhide HI0 w (fun z => rfl) (fun z => rfl))
  by_cases hsd : sd ⟨d, o, 0, 0, m⟩ = true
  case neg =>
    have hsf : sd ⟨d, o, 0, 0, m⟩ = false := by simpa using hsd
    obtain rfl : E = 132 := hE2 hL1 hsf
    rw [if_neg hsd] at HI
    clear hE1 hE2 hE3 hE4 hln hL hsd hsf HI0 hL1
    go_enter Tryd.func57, Tryd.ntmps57
    go_wp2_with (first
      | (go_at_call 26; refine (unhide HS _).mono ?_; rintro e w2 ⟨rfl, rfl⟩)
      | (go_at_call 43; refine (unhide HF _).mono ?_; rintro e w2 ⟨rfl, rfl⟩)
      | (go_at_call 44; refine (unhide HT _).mono ?_; rintro e w2 ⟨rfl, rfl⟩)
      | (go_at_call 45; refine (unhide HD _).mono ?_; rintro e w2 ⟨rfl, rfl⟩)
      | (go_at_call 46; refine (unhide HI _).mono ?_; rintro e z1 ⟨rfl, g1⟩; have HG1 := hide (grew_trans (unhide HG) g1); have cx := unhide HX _ g1; obtain ⟨c0, c1, c2, c3, c4⟩ := cells5 cx; clear cx g1))
    go_ret
    exact ⟨rfl, unhide HG1⟩
  rw [if_pos hsd] at HI
  have ho : o ≠ 1 := fun z => by subst z; exact absurd hr (by decide)
  have ko : (o == 1) = false := by simpa using ho
  by_cases hlo : m < 0
  case pos =>
    obtain rfl : E = 130 := hE3 hL1 hsd (by unfold fit; simp [hd, ho]; omega)
    have kl : decide (m < 0) = true := decide_eq_true hlo
    clear hE1 hE2 hE3 hE4 hln hL hsd HI0 hL1 hlo
    go_enter Tryd.func57, Tryd.ntmps57
    go_wp2_with (first
      | (go_at_call 26; refine (unhide HS _).mono ?_; rintro e w2 ⟨rfl, rfl⟩)
      | (go_at_call 43; refine (unhide HF _).mono ?_; rintro e w2 ⟨rfl, rfl⟩)
      | (go_at_call 44; refine (unhide HT _).mono ?_; rintro e w2 ⟨rfl, rfl⟩)
      | (go_at_call 45; refine (unhide HD _).mono ?_; rintro e w2 ⟨rfl, rfl⟩)
      | (go_at_call 46; refine (unhide HI _).mono ?_; rintro e z1 ⟨rfl, g1⟩; have HG1 := hide (grew_trans (unhide HG) g1); have cx := unhide HX _ g1; obtain ⟨c0, c1, c2, c3, c4⟩ := cells5 cx; clear cx g1))
    go_ret
    exact ⟨rfl, unhide HG1⟩
  have kl : decide (m < 0) = false := decide_eq_false hlo
  by_cases hhi : m > 65535
  case pos =>
    obtain rfl : E = 130 := hE3 hL1 hsd (by unfold fit; simp [hd, ho]; omega)
    have kh : decide (m > 65535) = true := decide_eq_true hhi
    have kh2 : decide (65535 < m) = true := decide_eq_true hhi
    clear hE1 hE2 hE3 hE4 hln hL hsd HI0 hL1 hlo hhi
    go_enter Tryd.func57, Tryd.ntmps57
    go_wp2_with (first
      | (go_at_call 26; refine (unhide HS _).mono ?_; rintro e w2 ⟨rfl, rfl⟩)
      | (go_at_call 43; refine (unhide HF _).mono ?_; rintro e w2 ⟨rfl, rfl⟩)
      | (go_at_call 44; refine (unhide HT _).mono ?_; rintro e w2 ⟨rfl, rfl⟩)
      | (go_at_call 45; refine (unhide HD _).mono ?_; rintro e w2 ⟨rfl, rfl⟩)
      | (go_at_call 46; refine (unhide HI _).mono ?_; rintro e z1 ⟨rfl, g1⟩; have HG1 := hide (grew_trans (unhide HG) g1); have cx := unhide HX _ g1; obtain ⟨c0, c1, c2, c3, c4⟩ := cells5 cx; clear cx g1))
    go_ret
    exact ⟨rfl, unhide HG1⟩
  have kh : decide (m > 65535) = false := decide_eq_false hhi
  have kh2 : decide (65535 < m) = false := decide_eq_false hhi
  obtain rfl : E = 0 := hE4 hL1 hsd (by unfold fit; simp [hd, ho]; omega)
  clear hE1 hE2 hE3 hE4 hln hL hsd HI0 hL1 hlo hhi
  go_enter Tryd.func57, Tryd.ntmps57
  go_wp2_with (first
    | (go_at_call 26; refine (unhide HS _).mono ?_; rintro e w2 ⟨rfl, rfl⟩)
    | (go_at_call 43; refine (unhide HF _).mono ?_; rintro e w2 ⟨rfl, rfl⟩)
    | (go_at_call 44; refine (unhide HT _).mono ?_; rintro e w2 ⟨rfl, rfl⟩)
    | (go_at_call 45; refine (unhide HD _).mono ?_; rintro e w2 ⟨rfl, rfl⟩)
    | (go_at_call 46; refine (unhide HI _).mono ?_; rintro e z1 ⟨rfl, g1⟩; have HG1 := hide (grew_trans (unhide HG) g1); have cx := unhide HX _ g1; obtain ⟨c0, c1, c2, c3, c4⟩ := cells5 cx; clear cx g1))
  go_ret
  exact ⟨rfl, unhide HG1⟩
set_option maxHeartbeats 6400000 in
theorem rfits10 (d o a b m : Int) (w : World) (h0 : 0 ≤ o) (h1 : o < 28) (hr : rg o = 1) (hd : wd o = 0) : Calls Tryd.prog 57 #[iV d o a b m] w fun e w' => e = .returned (.int .i64 (putE ⟨d, o, a, b, m⟩)) ∧ Grew w w' := by
  have HS := hide (fun w => rsize_any o w)
  have HF := hide (fun w => first_any o w h0 h1)
  have HT := hide (fun w => two_any o w h0 h1)
  have HD := hide (fun w => rwide_any o w h0 h1)
  have HI0 := hide (fun w hl1 hl2 => rindex_any d o a b m w h0 h1 hl1 hl2)
  have hs := (op_facts h0 h1).2.2.1
  rw [hr, hd] at hs
  rw [hr] at HF HT
  rw [hd] at HD
  rw [hs] at HS
  simp only [show decide (1 ≤ 1) = true from rfl] at HF
  simp only [show decide (2 ≤ 1) = false from rfl] at HT
  simp only [show (1 + ((1 : Nat) : Int) + ((0 : Nat) : Int)) = 2 from rfl] at HS
  simp only [show (((0 : Nat) : Int)) = 0 from rfl] at HD
  have HG := hide (grew_alloc (grew_refl w) (.cells #[.int .i64 d, .int .i64 o, .int .i64 a, .int .i64 b, .int .i64 m] 28))
  have HX : Hid (∀ z, Grew (w.alloc (.cells #[.int .i64 d, .int .i64 o, .int .i64 a, .int .i64 b, .int .i64 m] 28)) z → z.heap[w.heap.size]? = some (.cells #[.int .i64 d, .int .i64 o, .int .i64 a, .int .i64 b, .int .i64 m] 28)) := fun z g => (g.below.block _ (by simp)).trans (heap_alloc_new w _)
  have hE1 : lnn ⟨d, o, a, b, m⟩ = false → putE ⟨d, o, a, b, m⟩ = 130 := fun h => if_neg (fun z => by rw [h] at z; exact absurd z.2 (by decide))
  have hE2 : lnn ⟨d, o, a, b, m⟩ = true → sd ⟨d, o, a, b, m⟩ = false → putE ⟨d, o, a, b, m⟩ = 132 := fun h h2 => by unfold putE; rw [if_pos ⟨⟨h0, h1⟩, h⟩, h2]; rfl
  have hE3 : lnn ⟨d, o, a, b, m⟩ = true → sd ⟨d, o, a, b, m⟩ = true → fit ⟨d, o, a, b, m⟩ = false → putE ⟨d, o, a, b, m⟩ = 130 := fun h h2 h3 => by unfold putE; rw [if_pos ⟨⟨h0, h1⟩, h⟩, h2, h3]; rfl
  have hE4 : lnn ⟨d, o, a, b, m⟩ = true → sd ⟨d, o, a, b, m⟩ = true → fit ⟨d, o, a, b, m⟩ = true → putE ⟨d, o, a, b, m⟩ = 0 := fun h h2 h3 => by unfold putE; rw [if_pos ⟨⟨h0, h1⟩, h⟩, h2, h3]; rfl
  have hln : lnn ⟨d, o, a, b, m⟩ = decide ((True) ∧ (b = 0) ∧ (m = 0)) := by
    unfold lnn
    simp only [hr, hd]
    simp
  generalize putE ⟨d, o, a, b, m⟩ = E at *
  generalize hL : lnn ⟨d, o, a, b, m⟩ = L at *
  by_cases hb : b = 0
  case neg =>
    obtain rfl : E = 130 := hE1 (by rw [hln]; simp [hb])
    have kb : (b != 0) = true := by simpa using hb
    clear hE1 hE2 hE3 hE4 hln hL hb HI0
    go_enter Tryd.func57, Tryd.ntmps57
    go_wp2_with (first
      | (go_at_call 26; refine (unhide HS _).mono ?_; rintro e w2 ⟨rfl, rfl⟩)
      | (go_at_call 43; refine (unhide HF _).mono ?_; rintro e w2 ⟨rfl, rfl⟩)
      | (go_at_call 44; refine (unhide HT _).mono ?_; rintro e w2 ⟨rfl, rfl⟩)
      | (go_at_call 45; refine (unhide HD _).mono ?_; rintro e w2 ⟨rfl, rfl⟩)
      | (go_at_call 46; refine (unhide HI _).mono ?_; rintro e z1 ⟨rfl, g1⟩; have HG1 := hide (grew_trans (unhide HG) g1); have cx := unhide HX _ g1; obtain ⟨c0, c1, c2, c3, c4⟩ := cells5 cx; clear cx g1))
    go_ret
    exact ⟨rfl, unhide HG⟩
  subst hb
  by_cases hm : m = 0
  case neg =>
    obtain rfl : E = 130 := hE1 (by rw [hln]; simp [hm])
    have km : (m != 0) = true := by simpa using hm
    clear hE1 hE2 hE3 hE4 hln hL hm HI0
    go_enter Tryd.func57, Tryd.ntmps57
    go_wp2_with (first
      | (go_at_call 26; refine (unhide HS _).mono ?_; rintro e w2 ⟨rfl, rfl⟩)
      | (go_at_call 43; refine (unhide HF _).mono ?_; rintro e w2 ⟨rfl, rfl⟩)
      | (go_at_call 44; refine (unhide HT _).mono ?_; rintro e w2 ⟨rfl, rfl⟩)
      | (go_at_call 45; refine (unhide HD _).mono ?_; rintro e w2 ⟨rfl, rfl⟩)
      | (go_at_call 46; refine (unhide HI _).mono ?_; rintro e z1 ⟨rfl, g1⟩; have HG1 := hide (grew_trans (unhide HG) g1); have cx := unhide HX _ g1; obtain ⟨c0, c1, c2, c3, c4⟩ := cells5 cx; clear cx g1))
    go_ret
    exact ⟨rfl, unhide HG⟩
  subst hm
  have hL1 : L = true := by rw [hln]; simp
  have HI := hide (fun w => unhide HI0 w (fun z => (by omega)) (fun z => rfl))
  by_cases hsd : sd ⟨d, o, a, 0, 0⟩ = true
  case neg =>
    have hsf : sd ⟨d, o, a, 0, 0⟩ = false := by simpa using hsd
    obtain rfl : E = 132 := hE2 hL1 hsf
    rw [if_neg hsd] at HI
    clear hE1 hE2 hE3 hE4 hln hL hsd hsf HI0 hL1
    go_enter Tryd.func57, Tryd.ntmps57
    go_wp2_with (first
      | (go_at_call 26; refine (unhide HS _).mono ?_; rintro e w2 ⟨rfl, rfl⟩)
      | (go_at_call 43; refine (unhide HF _).mono ?_; rintro e w2 ⟨rfl, rfl⟩)
      | (go_at_call 44; refine (unhide HT _).mono ?_; rintro e w2 ⟨rfl, rfl⟩)
      | (go_at_call 45; refine (unhide HD _).mono ?_; rintro e w2 ⟨rfl, rfl⟩)
      | (go_at_call 46; refine (unhide HI _).mono ?_; rintro e z1 ⟨rfl, g1⟩; have HG1 := hide (grew_trans (unhide HG) g1); have cx := unhide HX _ g1; obtain ⟨c0, c1, c2, c3, c4⟩ := cells5 cx; clear cx g1))
    go_ret
    exact ⟨rfl, unhide HG1⟩
  rw [if_pos hsd] at HI
  obtain rfl : E = 0 := hE4 hL1 hsd (by unfold fit; simp [hd])
  clear hE1 hE2 hE3 hE4 hln hL hsd HI0 hL1
  go_enter Tryd.func57, Tryd.ntmps57
  go_wp2_with (first
    | (go_at_call 26; refine (unhide HS _).mono ?_; rintro e w2 ⟨rfl, rfl⟩)
    | (go_at_call 43; refine (unhide HF _).mono ?_; rintro e w2 ⟨rfl, rfl⟩)
    | (go_at_call 44; refine (unhide HT _).mono ?_; rintro e w2 ⟨rfl, rfl⟩)
    | (go_at_call 45; refine (unhide HD _).mono ?_; rintro e w2 ⟨rfl, rfl⟩)
    | (go_at_call 46; refine (unhide HI _).mono ?_; rintro e z1 ⟨rfl, g1⟩; have HG1 := hide (grew_trans (unhide HG) g1); have cx := unhide HX _ g1; obtain ⟨c0, c1, c2, c3, c4⟩ := cells5 cx; clear cx g1))
  go_ret
  exact ⟨rfl, unhide HG1⟩
set_option maxHeartbeats 6400000 in
theorem rfits11 (d o a b m : Int) (w : World) (h0 : 0 ≤ o) (h1 : o < 28) (hr : rg o = 1) (hd : wd o = 1) : Calls Tryd.prog 57 #[iV d o a b m] w fun e w' => e = .returned (.int .i64 (putE ⟨d, o, a, b, m⟩)) ∧ Grew w w' := by
  have HS := hide (fun w => rsize_any o w)
  have HF := hide (fun w => first_any o w h0 h1)
  have HT := hide (fun w => two_any o w h0 h1)
  have HD := hide (fun w => rwide_any o w h0 h1)
  have HI0 := hide (fun w hl1 hl2 => rindex_any d o a b m w h0 h1 hl1 hl2)
  have hs := (op_facts h0 h1).2.2.1
  rw [hr, hd] at hs
  rw [hr] at HF HT
  rw [hd] at HD
  rw [hs] at HS
  simp only [show decide (1 ≤ 1) = true from rfl] at HF
  simp only [show decide (2 ≤ 1) = false from rfl] at HT
  simp only [show (1 + ((1 : Nat) : Int) + ((1 : Nat) : Int)) = 3 from rfl] at HS
  simp only [show (((1 : Nat) : Int)) = 1 from rfl] at HD
  have HG := hide (grew_alloc (grew_refl w) (.cells #[.int .i64 d, .int .i64 o, .int .i64 a, .int .i64 b, .int .i64 m] 28))
  have HX : Hid (∀ z, Grew (w.alloc (.cells #[.int .i64 d, .int .i64 o, .int .i64 a, .int .i64 b, .int .i64 m] 28)) z → z.heap[w.heap.size]? = some (.cells #[.int .i64 d, .int .i64 o, .int .i64 a, .int .i64 b, .int .i64 m] 28)) := fun z g => (g.below.block _ (by simp)).trans (heap_alloc_new w _)
  have hE1 : lnn ⟨d, o, a, b, m⟩ = false → putE ⟨d, o, a, b, m⟩ = 130 := fun h => if_neg (fun z => by rw [h] at z; exact absurd z.2 (by decide))
  have hE2 : lnn ⟨d, o, a, b, m⟩ = true → sd ⟨d, o, a, b, m⟩ = false → putE ⟨d, o, a, b, m⟩ = 132 := fun h h2 => by unfold putE; rw [if_pos ⟨⟨h0, h1⟩, h⟩, h2]; rfl
  have hE3 : lnn ⟨d, o, a, b, m⟩ = true → sd ⟨d, o, a, b, m⟩ = true → fit ⟨d, o, a, b, m⟩ = false → putE ⟨d, o, a, b, m⟩ = 130 := fun h h2 h3 => by unfold putE; rw [if_pos ⟨⟨h0, h1⟩, h⟩, h2, h3]; rfl
  have hE4 : lnn ⟨d, o, a, b, m⟩ = true → sd ⟨d, o, a, b, m⟩ = true → fit ⟨d, o, a, b, m⟩ = true → putE ⟨d, o, a, b, m⟩ = 0 := fun h h2 h3 => by unfold putE; rw [if_pos ⟨⟨h0, h1⟩, h⟩, h2, h3]; rfl
  have hln : lnn ⟨d, o, a, b, m⟩ = decide ((True) ∧ (b = 0) ∧ (True)) := by
    unfold lnn
    simp only [hr, hd]
    simp
  generalize putE ⟨d, o, a, b, m⟩ = E at *
  generalize hL : lnn ⟨d, o, a, b, m⟩ = L at *
  by_cases hb : b = 0
  case neg =>
    obtain rfl : E = 130 := hE1 (by rw [hln]; simp [hb])
    have kb : (b != 0) = true := by simpa using hb
    clear hE1 hE2 hE3 hE4 hln hL hb HI0
    go_enter Tryd.func57, Tryd.ntmps57
    go_wp2_with (first
      | (go_at_call 26; refine (unhide HS _).mono ?_; rintro e w2 ⟨rfl, rfl⟩)
      | (go_at_call 43; refine (unhide HF _).mono ?_; rintro e w2 ⟨rfl, rfl⟩)
      | (go_at_call 44; refine (unhide HT _).mono ?_; rintro e w2 ⟨rfl, rfl⟩)
      | (go_at_call 45; refine (unhide HD _).mono ?_; rintro e w2 ⟨rfl, rfl⟩)
      | (go_at_call 46; refine (unhide HI _).mono ?_; rintro e z1 ⟨rfl, g1⟩; have HG1 := hide (grew_trans (unhide HG) g1); have cx := unhide HX _ g1; obtain ⟨c0, c1, c2, c3, c4⟩ := cells5 cx; clear cx g1))
    go_ret
    exact ⟨rfl, unhide HG⟩
  subst hb
  have hL1 : L = true := by rw [hln]; simp
  have HI := hide (fun w => unhide HI0 w (fun z => (by omega)) (fun z => rfl))
  by_cases hsd : sd ⟨d, o, a, 0, m⟩ = true
  case neg =>
    have hsf : sd ⟨d, o, a, 0, m⟩ = false := by simpa using hsd
    obtain rfl : E = 132 := hE2 hL1 hsf
    rw [if_neg hsd] at HI
    clear hE1 hE2 hE3 hE4 hln hL hsd hsf HI0 hL1
    go_enter Tryd.func57, Tryd.ntmps57
    go_wp2_with (first
      | (go_at_call 26; refine (unhide HS _).mono ?_; rintro e w2 ⟨rfl, rfl⟩)
      | (go_at_call 43; refine (unhide HF _).mono ?_; rintro e w2 ⟨rfl, rfl⟩)
      | (go_at_call 44; refine (unhide HT _).mono ?_; rintro e w2 ⟨rfl, rfl⟩)
      | (go_at_call 45; refine (unhide HD _).mono ?_; rintro e w2 ⟨rfl, rfl⟩)
      | (go_at_call 46; refine (unhide HI _).mono ?_; rintro e z1 ⟨rfl, g1⟩; have HG1 := hide (grew_trans (unhide HG) g1); have cx := unhide HX _ g1; obtain ⟨c0, c1, c2, c3, c4⟩ := cells5 cx; clear cx g1))
    go_ret
    exact ⟨rfl, unhide HG1⟩
  rw [if_pos hsd] at HI
  have ho : o ≠ 1 := fun z => by subst z; exact absurd hd (by decide)
  have ko : (o == 1) = false := by simpa using ho
  by_cases hlo : m < 0
  case pos =>
    obtain rfl : E = 130 := hE3 hL1 hsd (by unfold fit; simp [hd, ho]; omega)
    have kl : decide (m < 0) = true := decide_eq_true hlo
    clear hE1 hE2 hE3 hE4 hln hL hsd HI0 hL1 hlo
    go_enter Tryd.func57, Tryd.ntmps57
    go_wp2_with (first
      | (go_at_call 26; refine (unhide HS _).mono ?_; rintro e w2 ⟨rfl, rfl⟩)
      | (go_at_call 43; refine (unhide HF _).mono ?_; rintro e w2 ⟨rfl, rfl⟩)
      | (go_at_call 44; refine (unhide HT _).mono ?_; rintro e w2 ⟨rfl, rfl⟩)
      | (go_at_call 45; refine (unhide HD _).mono ?_; rintro e w2 ⟨rfl, rfl⟩)
      | (go_at_call 46; refine (unhide HI _).mono ?_; rintro e z1 ⟨rfl, g1⟩; have HG1 := hide (grew_trans (unhide HG) g1); have cx := unhide HX _ g1; obtain ⟨c0, c1, c2, c3, c4⟩ := cells5 cx; clear cx g1))
    go_ret
    exact ⟨rfl, unhide HG1⟩
  have kl : decide (m < 0) = false := decide_eq_false hlo
  by_cases hhi : m > 255
  case pos =>
    obtain rfl : E = 130 := hE3 hL1 hsd (by unfold fit; simp [hd, ho]; omega)
    have kh : decide (m > 255) = true := decide_eq_true hhi
    have kh2 : decide (255 < m) = true := decide_eq_true hhi
    clear hE1 hE2 hE3 hE4 hln hL hsd HI0 hL1 hlo hhi
    go_enter Tryd.func57, Tryd.ntmps57
    go_wp2_with (first
      | (go_at_call 26; refine (unhide HS _).mono ?_; rintro e w2 ⟨rfl, rfl⟩)
      | (go_at_call 43; refine (unhide HF _).mono ?_; rintro e w2 ⟨rfl, rfl⟩)
      | (go_at_call 44; refine (unhide HT _).mono ?_; rintro e w2 ⟨rfl, rfl⟩)
      | (go_at_call 45; refine (unhide HD _).mono ?_; rintro e w2 ⟨rfl, rfl⟩)
      | (go_at_call 46; refine (unhide HI _).mono ?_; rintro e z1 ⟨rfl, g1⟩; have HG1 := hide (grew_trans (unhide HG) g1); have cx := unhide HX _ g1; obtain ⟨c0, c1, c2, c3, c4⟩ := cells5 cx; clear cx g1))
    go_ret
    exact ⟨rfl, unhide HG1⟩
  have kh : decide (m > 255) = false := decide_eq_false hhi
  have kh2 : decide (255 < m) = false := decide_eq_false hhi
  obtain rfl : E = 0 := hE4 hL1 hsd (by unfold fit; simp [hd, ho]; omega)
  clear hE1 hE2 hE3 hE4 hln hL hsd HI0 hL1 hlo hhi
  go_enter Tryd.func57, Tryd.ntmps57
  go_wp2_with (first
    | (go_at_call 26; refine (unhide HS _).mono ?_; rintro e w2 ⟨rfl, rfl⟩)
    | (go_at_call 43; refine (unhide HF _).mono ?_; rintro e w2 ⟨rfl, rfl⟩)
    | (go_at_call 44; refine (unhide HT _).mono ?_; rintro e w2 ⟨rfl, rfl⟩)
    | (go_at_call 45; refine (unhide HD _).mono ?_; rintro e w2 ⟨rfl, rfl⟩)
    | (go_at_call 46; refine (unhide HI _).mono ?_; rintro e z1 ⟨rfl, g1⟩; have HG1 := hide (grew_trans (unhide HG) g1); have cx := unhide HX _ g1; obtain ⟨c0, c1, c2, c3, c4⟩ := cells5 cx; clear cx g1))
  go_ret
  exact ⟨rfl, unhide HG1⟩
set_option maxHeartbeats 6400000 in
theorem rfits12 (d o a b m : Int) (w : World) (h0 : 0 ≤ o) (h1 : o < 28) (hr : rg o = 1) (hd : wd o = 2) : Calls Tryd.prog 57 #[iV d o a b m] w fun e w' => e = .returned (.int .i64 (putE ⟨d, o, a, b, m⟩)) ∧ Grew w w' := by
  have HS := hide (fun w => rsize_any o w)
  have HF := hide (fun w => first_any o w h0 h1)
  have HT := hide (fun w => two_any o w h0 h1)
  have HD := hide (fun w => rwide_any o w h0 h1)
  have HI0 := hide (fun w hl1 hl2 => rindex_any d o a b m w h0 h1 hl1 hl2)
  have hs := (op_facts h0 h1).2.2.1
  rw [hr, hd] at hs
  rw [hr] at HF HT
  rw [hd] at HD
  rw [hs] at HS
  simp only [show decide (1 ≤ 1) = true from rfl] at HF
  simp only [show decide (2 ≤ 1) = false from rfl] at HT
  simp only [show (1 + ((1 : Nat) : Int) + ((2 : Nat) : Int)) = 4 from rfl] at HS
  simp only [show (((2 : Nat) : Int)) = 2 from rfl] at HD
  have HG := hide (grew_alloc (grew_refl w) (.cells #[.int .i64 d, .int .i64 o, .int .i64 a, .int .i64 b, .int .i64 m] 28))
  have HX : Hid (∀ z, Grew (w.alloc (.cells #[.int .i64 d, .int .i64 o, .int .i64 a, .int .i64 b, .int .i64 m] 28)) z → z.heap[w.heap.size]? = some (.cells #[.int .i64 d, .int .i64 o, .int .i64 a, .int .i64 b, .int .i64 m] 28)) := fun z g => (g.below.block _ (by simp)).trans (heap_alloc_new w _)
  have hE1 : lnn ⟨d, o, a, b, m⟩ = false → putE ⟨d, o, a, b, m⟩ = 130 := fun h => if_neg (fun z => by rw [h] at z; exact absurd z.2 (by decide))
  have hE2 : lnn ⟨d, o, a, b, m⟩ = true → sd ⟨d, o, a, b, m⟩ = false → putE ⟨d, o, a, b, m⟩ = 132 := fun h h2 => by unfold putE; rw [if_pos ⟨⟨h0, h1⟩, h⟩, h2]; rfl
  have hE3 : lnn ⟨d, o, a, b, m⟩ = true → sd ⟨d, o, a, b, m⟩ = true → fit ⟨d, o, a, b, m⟩ = false → putE ⟨d, o, a, b, m⟩ = 130 := fun h h2 h3 => by unfold putE; rw [if_pos ⟨⟨h0, h1⟩, h⟩, h2, h3]; rfl
  have hE4 : lnn ⟨d, o, a, b, m⟩ = true → sd ⟨d, o, a, b, m⟩ = true → fit ⟨d, o, a, b, m⟩ = true → putE ⟨d, o, a, b, m⟩ = 0 := fun h h2 h3 => by unfold putE; rw [if_pos ⟨⟨h0, h1⟩, h⟩, h2, h3]; rfl
  have hln : lnn ⟨d, o, a, b, m⟩ = decide ((True) ∧ (b = 0) ∧ (True)) := by
    unfold lnn
    simp only [hr, hd]
    simp
  generalize putE ⟨d, o, a, b, m⟩ = E at *
  generalize hL : lnn ⟨d, o, a, b, m⟩ = L at *
  by_cases hb : b = 0
  case neg =>
    obtain rfl : E = 130 := hE1 (by rw [hln]; simp [hb])
    have kb : (b != 0) = true := by simpa using hb
    clear hE1 hE2 hE3 hE4 hln hL hb HI0
    go_enter Tryd.func57, Tryd.ntmps57
    go_wp2_with (first
      | (go_at_call 26; refine (unhide HS _).mono ?_; rintro e w2 ⟨rfl, rfl⟩)
      | (go_at_call 43; refine (unhide HF _).mono ?_; rintro e w2 ⟨rfl, rfl⟩)
      | (go_at_call 44; refine (unhide HT _).mono ?_; rintro e w2 ⟨rfl, rfl⟩)
      | (go_at_call 45; refine (unhide HD _).mono ?_; rintro e w2 ⟨rfl, rfl⟩)
      | (go_at_call 46; refine (unhide HI _).mono ?_; rintro e z1 ⟨rfl, g1⟩; have HG1 := hide (grew_trans (unhide HG) g1); have cx := unhide HX _ g1; obtain ⟨c0, c1, c2, c3, c4⟩ := cells5 cx; clear cx g1))
    go_ret
    exact ⟨rfl, unhide HG⟩
  subst hb
  have hL1 : L = true := by rw [hln]; simp
  have HI := hide (fun w => unhide HI0 w (fun z => (by omega)) (fun z => rfl))
  by_cases hsd : sd ⟨d, o, a, 0, m⟩ = true
  case neg =>
    have hsf : sd ⟨d, o, a, 0, m⟩ = false := by simpa using hsd
    obtain rfl : E = 132 := hE2 hL1 hsf
    rw [if_neg hsd] at HI
    clear hE1 hE2 hE3 hE4 hln hL hsd hsf HI0 hL1
    go_enter Tryd.func57, Tryd.ntmps57
    go_wp2_with (first
      | (go_at_call 26; refine (unhide HS _).mono ?_; rintro e w2 ⟨rfl, rfl⟩)
      | (go_at_call 43; refine (unhide HF _).mono ?_; rintro e w2 ⟨rfl, rfl⟩)
      | (go_at_call 44; refine (unhide HT _).mono ?_; rintro e w2 ⟨rfl, rfl⟩)
      | (go_at_call 45; refine (unhide HD _).mono ?_; rintro e w2 ⟨rfl, rfl⟩)
      | (go_at_call 46; refine (unhide HI _).mono ?_; rintro e z1 ⟨rfl, g1⟩; have HG1 := hide (grew_trans (unhide HG) g1); have cx := unhide HX _ g1; obtain ⟨c0, c1, c2, c3, c4⟩ := cells5 cx; clear cx g1))
    go_ret
    exact ⟨rfl, unhide HG1⟩
  rw [if_pos hsd] at HI
  by_cases ho : o = 1
  case pos =>
    subst ho
    by_cases hlo : m < (-32768)
    case pos =>
      obtain rfl : E = 130 := hE3 hL1 hsd (by unfold fit; simp; omega)
      have kl : decide (m < (-32768)) = true := decide_eq_true hlo
      clear hE1 hE2 hE3 hE4 hln hL hsd HI0 hL1 hlo
      go_enter Tryd.func57, Tryd.ntmps57
      go_wp2_with (first
        | (go_at_call 26; refine (unhide HS _).mono ?_; rintro e w2 ⟨rfl, rfl⟩)
        | (go_at_call 43; refine (unhide HF _).mono ?_; rintro e w2 ⟨rfl, rfl⟩)
        | (go_at_call 44; refine (unhide HT _).mono ?_; rintro e w2 ⟨rfl, rfl⟩)
        | (go_at_call 45; refine (unhide HD _).mono ?_; rintro e w2 ⟨rfl, rfl⟩)
        | (go_at_call 46; refine (unhide HI _).mono ?_; rintro e z1 ⟨rfl, g1⟩; have HG1 := hide (grew_trans (unhide HG) g1); have cx := unhide HX _ g1; obtain ⟨c0, c1, c2, c3, c4⟩ := cells5 cx; clear cx g1))
      go_ret
      exact ⟨rfl, unhide HG1⟩
    have kl : decide (m < (-32768)) = false := decide_eq_false hlo
    by_cases hhi : m > 32767
    case pos =>
      obtain rfl : E = 130 := hE3 hL1 hsd (by unfold fit; simp; omega)
      have kh : decide (m > 32767) = true := decide_eq_true hhi
      have kh2 : decide (32767 < m) = true := decide_eq_true hhi
      clear hE1 hE2 hE3 hE4 hln hL hsd HI0 hL1 hlo hhi
      go_enter Tryd.func57, Tryd.ntmps57
      go_wp2_with (first
        | (go_at_call 26; refine (unhide HS _).mono ?_; rintro e w2 ⟨rfl, rfl⟩)
        | (go_at_call 43; refine (unhide HF _).mono ?_; rintro e w2 ⟨rfl, rfl⟩)
        | (go_at_call 44; refine (unhide HT _).mono ?_; rintro e w2 ⟨rfl, rfl⟩)
        | (go_at_call 45; refine (unhide HD _).mono ?_; rintro e w2 ⟨rfl, rfl⟩)
        | (go_at_call 46; refine (unhide HI _).mono ?_; rintro e z1 ⟨rfl, g1⟩; have HG1 := hide (grew_trans (unhide HG) g1); have cx := unhide HX _ g1; obtain ⟨c0, c1, c2, c3, c4⟩ := cells5 cx; clear cx g1))
      go_ret
      exact ⟨rfl, unhide HG1⟩
    have kh : decide (m > 32767) = false := decide_eq_false hhi
    have kh2 : decide (32767 < m) = false := decide_eq_false hhi
    obtain rfl : E = 0 := hE4 hL1 hsd (by unfold fit; simp; omega)
    clear hE1 hE2 hE3 hE4 hln hL hsd HI0 hL1 hlo hhi
    go_enter Tryd.func57, Tryd.ntmps57
    go_wp2_with (first
      | (go_at_call 26; refine (unhide HS _).mono ?_; rintro e w2 ⟨rfl, rfl⟩)
      | (go_at_call 43; refine (unhide HF _).mono ?_; rintro e w2 ⟨rfl, rfl⟩)
      | (go_at_call 44; refine (unhide HT _).mono ?_; rintro e w2 ⟨rfl, rfl⟩)
      | (go_at_call 45; refine (unhide HD _).mono ?_; rintro e w2 ⟨rfl, rfl⟩)
      | (go_at_call 46; refine (unhide HI _).mono ?_; rintro e z1 ⟨rfl, g1⟩; have HG1 := hide (grew_trans (unhide HG) g1); have cx := unhide HX _ g1; obtain ⟨c0, c1, c2, c3, c4⟩ := cells5 cx; clear cx g1))
    go_ret
    exact ⟨rfl, unhide HG1⟩
  have ko : (o == 1) = false := by simpa using ho
  by_cases hlo : m < 0
  case pos =>
    obtain rfl : E = 130 := hE3 hL1 hsd (by unfold fit; simp [hd, ho]; omega)
    have kl : decide (m < 0) = true := decide_eq_true hlo
    clear hE1 hE2 hE3 hE4 hln hL hsd HI0 hL1 hlo
    go_enter Tryd.func57, Tryd.ntmps57
    go_wp2_with (first
      | (go_at_call 26; refine (unhide HS _).mono ?_; rintro e w2 ⟨rfl, rfl⟩)
      | (go_at_call 43; refine (unhide HF _).mono ?_; rintro e w2 ⟨rfl, rfl⟩)
      | (go_at_call 44; refine (unhide HT _).mono ?_; rintro e w2 ⟨rfl, rfl⟩)
      | (go_at_call 45; refine (unhide HD _).mono ?_; rintro e w2 ⟨rfl, rfl⟩)
      | (go_at_call 46; refine (unhide HI _).mono ?_; rintro e z1 ⟨rfl, g1⟩; have HG1 := hide (grew_trans (unhide HG) g1); have cx := unhide HX _ g1; obtain ⟨c0, c1, c2, c3, c4⟩ := cells5 cx; clear cx g1))
    go_ret
    exact ⟨rfl, unhide HG1⟩
  have kl : decide (m < 0) = false := decide_eq_false hlo
  by_cases hhi : m > 65535
  case pos =>
    obtain rfl : E = 130 := hE3 hL1 hsd (by unfold fit; simp [hd, ho]; omega)
    have kh : decide (m > 65535) = true := decide_eq_true hhi
    have kh2 : decide (65535 < m) = true := decide_eq_true hhi
    clear hE1 hE2 hE3 hE4 hln hL hsd HI0 hL1 hlo hhi
    go_enter Tryd.func57, Tryd.ntmps57
    go_wp2_with (first
      | (go_at_call 26; refine (unhide HS _).mono ?_; rintro e w2 ⟨rfl, rfl⟩)
      | (go_at_call 43; refine (unhide HF _).mono ?_; rintro e w2 ⟨rfl, rfl⟩)
      | (go_at_call 44; refine (unhide HT _).mono ?_; rintro e w2 ⟨rfl, rfl⟩)
      | (go_at_call 45; refine (unhide HD _).mono ?_; rintro e w2 ⟨rfl, rfl⟩)
      | (go_at_call 46; refine (unhide HI _).mono ?_; rintro e z1 ⟨rfl, g1⟩; have HG1 := hide (grew_trans (unhide HG) g1); have cx := unhide HX _ g1; obtain ⟨c0, c1, c2, c3, c4⟩ := cells5 cx; clear cx g1))
    go_ret
    exact ⟨rfl, unhide HG1⟩
  have kh : decide (m > 65535) = false := decide_eq_false hhi
  have kh2 : decide (65535 < m) = false := decide_eq_false hhi
  obtain rfl : E = 0 := hE4 hL1 hsd (by unfold fit; simp [hd, ho]; omega)
  clear hE1 hE2 hE3 hE4 hln hL hsd HI0 hL1 hlo hhi
  go_enter Tryd.func57, Tryd.ntmps57
  go_wp2_with (first
    | (go_at_call 26; refine (unhide HS _).mono ?_; rintro e w2 ⟨rfl, rfl⟩)
    | (go_at_call 43; refine (unhide HF _).mono ?_; rintro e w2 ⟨rfl, rfl⟩)
    | (go_at_call 44; refine (unhide HT _).mono ?_; rintro e w2 ⟨rfl, rfl⟩)
    | (go_at_call 45; refine (unhide HD _).mono ?_; rintro e w2 ⟨rfl, rfl⟩)
    | (go_at_call 46; refine (unhide HI _).mono ?_; rintro e z1 ⟨rfl, g1⟩; have HG1 := hide (grew_trans (unhide HG) g1); have cx := unhide HX _ g1; obtain ⟨c0, c1, c2, c3, c4⟩ := cells5 cx; clear cx g1))
  go_ret
  exact ⟨rfl, unhide HG1⟩
set_option maxHeartbeats 6400000 in
theorem rfits20 (d o a b m : Int) (w : World) (h0 : 0 ≤ o) (h1 : o < 28) (hr : rg o = 2) (hd : wd o = 0) : Calls Tryd.prog 57 #[iV d o a b m] w fun e w' => e = .returned (.int .i64 (putE ⟨d, o, a, b, m⟩)) ∧ Grew w w' := by
  have HS := hide (fun w => rsize_any o w)
  have HF := hide (fun w => first_any o w h0 h1)
  have HT := hide (fun w => two_any o w h0 h1)
  have HD := hide (fun w => rwide_any o w h0 h1)
  have HI0 := hide (fun w hl1 hl2 => rindex_any d o a b m w h0 h1 hl1 hl2)
  have hs := (op_facts h0 h1).2.2.1
  rw [hr, hd] at hs
  rw [hr] at HF HT
  rw [hd] at HD
  rw [hs] at HS
  simp only [show decide (1 ≤ 2) = true from rfl] at HF
  simp only [show decide (2 ≤ 2) = true from rfl] at HT
  simp only [show (1 + ((2 : Nat) : Int) + ((0 : Nat) : Int)) = 3 from rfl] at HS
  simp only [show (((0 : Nat) : Int)) = 0 from rfl] at HD
  have HG := hide (grew_alloc (grew_refl w) (.cells #[.int .i64 d, .int .i64 o, .int .i64 a, .int .i64 b, .int .i64 m] 28))
  have HX : Hid (∀ z, Grew (w.alloc (.cells #[.int .i64 d, .int .i64 o, .int .i64 a, .int .i64 b, .int .i64 m] 28)) z → z.heap[w.heap.size]? = some (.cells #[.int .i64 d, .int .i64 o, .int .i64 a, .int .i64 b, .int .i64 m] 28)) := fun z g => (g.below.block _ (by simp)).trans (heap_alloc_new w _)
  have hE1 : lnn ⟨d, o, a, b, m⟩ = false → putE ⟨d, o, a, b, m⟩ = 130 := fun h => if_neg (fun z => by rw [h] at z; exact absurd z.2 (by decide))
  have hE2 : lnn ⟨d, o, a, b, m⟩ = true → sd ⟨d, o, a, b, m⟩ = false → putE ⟨d, o, a, b, m⟩ = 132 := fun h h2 => by unfold putE; rw [if_pos ⟨⟨h0, h1⟩, h⟩, h2]; rfl
  have hE3 : lnn ⟨d, o, a, b, m⟩ = true → sd ⟨d, o, a, b, m⟩ = true → fit ⟨d, o, a, b, m⟩ = false → putE ⟨d, o, a, b, m⟩ = 130 := fun h h2 h3 => by unfold putE; rw [if_pos ⟨⟨h0, h1⟩, h⟩, h2, h3]; rfl
  have hE4 : lnn ⟨d, o, a, b, m⟩ = true → sd ⟨d, o, a, b, m⟩ = true → fit ⟨d, o, a, b, m⟩ = true → putE ⟨d, o, a, b, m⟩ = 0 := fun h h2 h3 => by unfold putE; rw [if_pos ⟨⟨h0, h1⟩, h⟩, h2, h3]; rfl
  have hln : lnn ⟨d, o, a, b, m⟩ = decide ((True) ∧ (True) ∧ (m = 0)) := by
    unfold lnn
    simp only [hr, hd]
    simp
  generalize putE ⟨d, o, a, b, m⟩ = E at *
  generalize hL : lnn ⟨d, o, a, b, m⟩ = L at *
  by_cases hm : m = 0
  case neg =>
    obtain rfl : E = 130 := hE1 (by rw [hln]; simp [hm])
    have km : (m != 0) = true := by simpa using hm
    clear hE1 hE2 hE3 hE4 hln hL hm HI0
    go_enter Tryd.func57, Tryd.ntmps57
    go_wp2_with (first
      | (go_at_call 26; refine (unhide HS _).mono ?_; rintro e w2 ⟨rfl, rfl⟩)
      | (go_at_call 43; refine (unhide HF _).mono ?_; rintro e w2 ⟨rfl, rfl⟩)
      | (go_at_call 44; refine (unhide HT _).mono ?_; rintro e w2 ⟨rfl, rfl⟩)
      | (go_at_call 45; refine (unhide HD _).mono ?_; rintro e w2 ⟨rfl, rfl⟩)
      | (go_at_call 46; refine (unhide HI _).mono ?_; rintro e z1 ⟨rfl, g1⟩; have HG1 := hide (grew_trans (unhide HG) g1); have cx := unhide HX _ g1; obtain ⟨c0, c1, c2, c3, c4⟩ := cells5 cx; clear cx g1))
    go_ret
    exact ⟨rfl, unhide HG⟩
  subst hm
  have hL1 : L = true := by rw [hln]; simp
  have HI := hide (fun w => unhide HI0 w (fun z => (by omega)) (fun z => (by omega)))
  by_cases hsd : sd ⟨d, o, a, b, 0⟩ = true
  case neg =>
    have hsf : sd ⟨d, o, a, b, 0⟩ = false := by simpa using hsd
    obtain rfl : E = 132 := hE2 hL1 hsf
    rw [if_neg hsd] at HI
    clear hE1 hE2 hE3 hE4 hln hL hsd hsf HI0 hL1
    go_enter Tryd.func57, Tryd.ntmps57
    go_wp2_with (first
      | (go_at_call 26; refine (unhide HS _).mono ?_; rintro e w2 ⟨rfl, rfl⟩)
      | (go_at_call 43; refine (unhide HF _).mono ?_; rintro e w2 ⟨rfl, rfl⟩)
      | (go_at_call 44; refine (unhide HT _).mono ?_; rintro e w2 ⟨rfl, rfl⟩)
      | (go_at_call 45; refine (unhide HD _).mono ?_; rintro e w2 ⟨rfl, rfl⟩)
      | (go_at_call 46; refine (unhide HI _).mono ?_; rintro e z1 ⟨rfl, g1⟩; have HG1 := hide (grew_trans (unhide HG) g1); have cx := unhide HX _ g1; obtain ⟨c0, c1, c2, c3, c4⟩ := cells5 cx; clear cx g1))
    go_ret
    exact ⟨rfl, unhide HG1⟩
  rw [if_pos hsd] at HI
  obtain rfl : E = 0 := hE4 hL1 hsd (by unfold fit; simp [hd])
  clear hE1 hE2 hE3 hE4 hln hL hsd HI0 hL1
  go_enter Tryd.func57, Tryd.ntmps57
  go_wp2_with (first
    | (go_at_call 26; refine (unhide HS _).mono ?_; rintro e w2 ⟨rfl, rfl⟩)
    | (go_at_call 43; refine (unhide HF _).mono ?_; rintro e w2 ⟨rfl, rfl⟩)
    | (go_at_call 44; refine (unhide HT _).mono ?_; rintro e w2 ⟨rfl, rfl⟩)
    | (go_at_call 45; refine (unhide HD _).mono ?_; rintro e w2 ⟨rfl, rfl⟩)
    | (go_at_call 46; refine (unhide HI _).mono ?_; rintro e z1 ⟨rfl, g1⟩; have HG1 := hide (grew_trans (unhide HG) g1); have cx := unhide HX _ g1; obtain ⟨c0, c1, c2, c3, c4⟩ := cells5 cx; clear cx g1))
  go_ret
  exact ⟨rfl, unhide HG1⟩
set_option maxHeartbeats 6400000 in
theorem rfits21 (d o a b m : Int) (w : World) (h0 : 0 ≤ o) (h1 : o < 28) (hr : rg o = 2) (hd : wd o = 1) : Calls Tryd.prog 57 #[iV d o a b m] w fun e w' => e = .returned (.int .i64 (putE ⟨d, o, a, b, m⟩)) ∧ Grew w w' := by
  have HS := hide (fun w => rsize_any o w)
  have HF := hide (fun w => first_any o w h0 h1)
  have HT := hide (fun w => two_any o w h0 h1)
  have HD := hide (fun w => rwide_any o w h0 h1)
  have HI0 := hide (fun w hl1 hl2 => rindex_any d o a b m w h0 h1 hl1 hl2)
  have hs := (op_facts h0 h1).2.2.1
  rw [hr, hd] at hs
  rw [hr] at HF HT
  rw [hd] at HD
  rw [hs] at HS
  simp only [show decide (1 ≤ 2) = true from rfl] at HF
  simp only [show decide (2 ≤ 2) = true from rfl] at HT
  simp only [show (1 + ((2 : Nat) : Int) + ((1 : Nat) : Int)) = 4 from rfl] at HS
  simp only [show (((1 : Nat) : Int)) = 1 from rfl] at HD
  have HG := hide (grew_alloc (grew_refl w) (.cells #[.int .i64 d, .int .i64 o, .int .i64 a, .int .i64 b, .int .i64 m] 28))
  have HX : Hid (∀ z, Grew (w.alloc (.cells #[.int .i64 d, .int .i64 o, .int .i64 a, .int .i64 b, .int .i64 m] 28)) z → z.heap[w.heap.size]? = some (.cells #[.int .i64 d, .int .i64 o, .int .i64 a, .int .i64 b, .int .i64 m] 28)) := fun z g => (g.below.block _ (by simp)).trans (heap_alloc_new w _)
  have hE1 : lnn ⟨d, o, a, b, m⟩ = false → putE ⟨d, o, a, b, m⟩ = 130 := fun h => if_neg (fun z => by rw [h] at z; exact absurd z.2 (by decide))
  have hE2 : lnn ⟨d, o, a, b, m⟩ = true → sd ⟨d, o, a, b, m⟩ = false → putE ⟨d, o, a, b, m⟩ = 132 := fun h h2 => by unfold putE; rw [if_pos ⟨⟨h0, h1⟩, h⟩, h2]; rfl
  have hE3 : lnn ⟨d, o, a, b, m⟩ = true → sd ⟨d, o, a, b, m⟩ = true → fit ⟨d, o, a, b, m⟩ = false → putE ⟨d, o, a, b, m⟩ = 130 := fun h h2 h3 => by unfold putE; rw [if_pos ⟨⟨h0, h1⟩, h⟩, h2, h3]; rfl
  have hE4 : lnn ⟨d, o, a, b, m⟩ = true → sd ⟨d, o, a, b, m⟩ = true → fit ⟨d, o, a, b, m⟩ = true → putE ⟨d, o, a, b, m⟩ = 0 := fun h h2 h3 => by unfold putE; rw [if_pos ⟨⟨h0, h1⟩, h⟩, h2, h3]; rfl
  have hln : lnn ⟨d, o, a, b, m⟩ = decide ((True) ∧ (True) ∧ (True)) := by
    unfold lnn
    simp only [hr, hd]
    simp
  generalize putE ⟨d, o, a, b, m⟩ = E at *
  generalize hL : lnn ⟨d, o, a, b, m⟩ = L at *
  have hL1 : L = true := by rw [hln]; simp
  have HI := hide (fun w => unhide HI0 w (fun z => (by omega)) (fun z => (by omega)))
  by_cases hsd : sd ⟨d, o, a, b, m⟩ = true
  case neg =>
    have hsf : sd ⟨d, o, a, b, m⟩ = false := by simpa using hsd
    obtain rfl : E = 132 := hE2 hL1 hsf
    rw [if_neg hsd] at HI
    clear hE1 hE2 hE3 hE4 hln hL hsd hsf HI0 hL1
    go_enter Tryd.func57, Tryd.ntmps57
    go_wp2_with (first
      | (go_at_call 26; refine (unhide HS _).mono ?_; rintro e w2 ⟨rfl, rfl⟩)
      | (go_at_call 43; refine (unhide HF _).mono ?_; rintro e w2 ⟨rfl, rfl⟩)
      | (go_at_call 44; refine (unhide HT _).mono ?_; rintro e w2 ⟨rfl, rfl⟩)
      | (go_at_call 45; refine (unhide HD _).mono ?_; rintro e w2 ⟨rfl, rfl⟩)
      | (go_at_call 46; refine (unhide HI _).mono ?_; rintro e z1 ⟨rfl, g1⟩; have HG1 := hide (grew_trans (unhide HG) g1); have cx := unhide HX _ g1; obtain ⟨c0, c1, c2, c3, c4⟩ := cells5 cx; clear cx g1))
    go_ret
    exact ⟨rfl, unhide HG1⟩
  rw [if_pos hsd] at HI
  have ho : o ≠ 1 := fun z => by subst z; exact absurd hd (by decide)
  have ko : (o == 1) = false := by simpa using ho
  by_cases hlo : m < 0
  case pos =>
    obtain rfl : E = 130 := hE3 hL1 hsd (by unfold fit; simp [hd, ho]; omega)
    have kl : decide (m < 0) = true := decide_eq_true hlo
    clear hE1 hE2 hE3 hE4 hln hL hsd HI0 hL1 hlo
    go_enter Tryd.func57, Tryd.ntmps57
    go_wp2_with (first
      | (go_at_call 26; refine (unhide HS _).mono ?_; rintro e w2 ⟨rfl, rfl⟩)
      | (go_at_call 43; refine (unhide HF _).mono ?_; rintro e w2 ⟨rfl, rfl⟩)
      | (go_at_call 44; refine (unhide HT _).mono ?_; rintro e w2 ⟨rfl, rfl⟩)
      | (go_at_call 45; refine (unhide HD _).mono ?_; rintro e w2 ⟨rfl, rfl⟩)
      | (go_at_call 46; refine (unhide HI _).mono ?_; rintro e z1 ⟨rfl, g1⟩; have HG1 := hide (grew_trans (unhide HG) g1); have cx := unhide HX _ g1; obtain ⟨c0, c1, c2, c3, c4⟩ := cells5 cx; clear cx g1))
    go_ret
    exact ⟨rfl, unhide HG1⟩
  have kl : decide (m < 0) = false := decide_eq_false hlo
  by_cases hhi : m > 255
  case pos =>
    obtain rfl : E = 130 := hE3 hL1 hsd (by unfold fit; simp [hd, ho]; omega)
    have kh : decide (m > 255) = true := decide_eq_true hhi
    have kh2 : decide (255 < m) = true := decide_eq_true hhi
    clear hE1 hE2 hE3 hE4 hln hL hsd HI0 hL1 hlo hhi
    go_enter Tryd.func57, Tryd.ntmps57
    go_wp2_with (first
      | (go_at_call 26; refine (unhide HS _).mono ?_; rintro e w2 ⟨rfl, rfl⟩)
      | (go_at_call 43; refine (unhide HF _).mono ?_; rintro e w2 ⟨rfl, rfl⟩)
      | (go_at_call 44; refine (unhide HT _).mono ?_; rintro e w2 ⟨rfl, rfl⟩)
      | (go_at_call 45; refine (unhide HD _).mono ?_; rintro e w2 ⟨rfl, rfl⟩)
      | (go_at_call 46; refine (unhide HI _).mono ?_; rintro e z1 ⟨rfl, g1⟩; have HG1 := hide (grew_trans (unhide HG) g1); have cx := unhide HX _ g1; obtain ⟨c0, c1, c2, c3, c4⟩ := cells5 cx; clear cx g1))
    go_ret
    exact ⟨rfl, unhide HG1⟩
  have kh : decide (m > 255) = false := decide_eq_false hhi
  have kh2 : decide (255 < m) = false := decide_eq_false hhi
  obtain rfl : E = 0 := hE4 hL1 hsd (by unfold fit; simp [hd, ho]; omega)
  clear hE1 hE2 hE3 hE4 hln hL hsd HI0 hL1 hlo hhi
  go_enter Tryd.func57, Tryd.ntmps57
  go_wp2_with (first
    | (go_at_call 26; refine (unhide HS _).mono ?_; rintro e w2 ⟨rfl, rfl⟩)
    | (go_at_call 43; refine (unhide HF _).mono ?_; rintro e w2 ⟨rfl, rfl⟩)
    | (go_at_call 44; refine (unhide HT _).mono ?_; rintro e w2 ⟨rfl, rfl⟩)
    | (go_at_call 45; refine (unhide HD _).mono ?_; rintro e w2 ⟨rfl, rfl⟩)
    | (go_at_call 46; refine (unhide HI _).mono ?_; rintro e z1 ⟨rfl, g1⟩; have HG1 := hide (grew_trans (unhide HG) g1); have cx := unhide HX _ g1; obtain ⟨c0, c1, c2, c3, c4⟩ := cells5 cx; clear cx g1))
  go_ret
  exact ⟨rfl, unhide HG1⟩
set_option maxHeartbeats 6400000 in
theorem rfits22 (d o a b m : Int) (w : World) (h0 : 0 ≤ o) (h1 : o < 28) (hr : rg o = 2) (hd : wd o = 2) : Calls Tryd.prog 57 #[iV d o a b m] w fun e w' => e = .returned (.int .i64 (putE ⟨d, o, a, b, m⟩)) ∧ Grew w w' := by
  have HS := hide (fun w => rsize_any o w)
  have HF := hide (fun w => first_any o w h0 h1)
  have HT := hide (fun w => two_any o w h0 h1)
  have HD := hide (fun w => rwide_any o w h0 h1)
  have HI0 := hide (fun w hl1 hl2 => rindex_any d o a b m w h0 h1 hl1 hl2)
  have hs := (op_facts h0 h1).2.2.1
  rw [hr, hd] at hs
  rw [hr] at HF HT
  rw [hd] at HD
  rw [hs] at HS
  simp only [show decide (1 ≤ 2) = true from rfl] at HF
  simp only [show decide (2 ≤ 2) = true from rfl] at HT
  simp only [show (1 + ((2 : Nat) : Int) + ((2 : Nat) : Int)) = 5 from rfl] at HS
  simp only [show (((2 : Nat) : Int)) = 2 from rfl] at HD
  have HG := hide (grew_alloc (grew_refl w) (.cells #[.int .i64 d, .int .i64 o, .int .i64 a, .int .i64 b, .int .i64 m] 28))
  have HX : Hid (∀ z, Grew (w.alloc (.cells #[.int .i64 d, .int .i64 o, .int .i64 a, .int .i64 b, .int .i64 m] 28)) z → z.heap[w.heap.size]? = some (.cells #[.int .i64 d, .int .i64 o, .int .i64 a, .int .i64 b, .int .i64 m] 28)) := fun z g => (g.below.block _ (by simp)).trans (heap_alloc_new w _)
  have hE1 : lnn ⟨d, o, a, b, m⟩ = false → putE ⟨d, o, a, b, m⟩ = 130 := fun h => if_neg (fun z => by rw [h] at z; exact absurd z.2 (by decide))
  have hE2 : lnn ⟨d, o, a, b, m⟩ = true → sd ⟨d, o, a, b, m⟩ = false → putE ⟨d, o, a, b, m⟩ = 132 := fun h h2 => by unfold putE; rw [if_pos ⟨⟨h0, h1⟩, h⟩, h2]; rfl
  have hE3 : lnn ⟨d, o, a, b, m⟩ = true → sd ⟨d, o, a, b, m⟩ = true → fit ⟨d, o, a, b, m⟩ = false → putE ⟨d, o, a, b, m⟩ = 130 := fun h h2 h3 => by unfold putE; rw [if_pos ⟨⟨h0, h1⟩, h⟩, h2, h3]; rfl
  have hE4 : lnn ⟨d, o, a, b, m⟩ = true → sd ⟨d, o, a, b, m⟩ = true → fit ⟨d, o, a, b, m⟩ = true → putE ⟨d, o, a, b, m⟩ = 0 := fun h h2 h3 => by unfold putE; rw [if_pos ⟨⟨h0, h1⟩, h⟩, h2, h3]; rfl
  have hln : lnn ⟨d, o, a, b, m⟩ = decide ((True) ∧ (True) ∧ (True)) := by
    unfold lnn
    simp only [hr, hd]
    simp
  generalize putE ⟨d, o, a, b, m⟩ = E at *
  generalize hL : lnn ⟨d, o, a, b, m⟩ = L at *
  have hL1 : L = true := by rw [hln]; simp
  have HI := hide (fun w => unhide HI0 w (fun z => (by omega)) (fun z => (by omega)))
  by_cases hsd : sd ⟨d, o, a, b, m⟩ = true
  case neg =>
    have hsf : sd ⟨d, o, a, b, m⟩ = false := by simpa using hsd
    obtain rfl : E = 132 := hE2 hL1 hsf
    rw [if_neg hsd] at HI
    clear hE1 hE2 hE3 hE4 hln hL hsd hsf HI0 hL1
    go_enter Tryd.func57, Tryd.ntmps57
    go_wp2_with (first
      | (go_at_call 26; refine (unhide HS _).mono ?_; rintro e w2 ⟨rfl, rfl⟩)
      | (go_at_call 43; refine (unhide HF _).mono ?_; rintro e w2 ⟨rfl, rfl⟩)
      | (go_at_call 44; refine (unhide HT _).mono ?_; rintro e w2 ⟨rfl, rfl⟩)
      | (go_at_call 45; refine (unhide HD _).mono ?_; rintro e w2 ⟨rfl, rfl⟩)
      | (go_at_call 46; refine (unhide HI _).mono ?_; rintro e z1 ⟨rfl, g1⟩; have HG1 := hide (grew_trans (unhide HG) g1); have cx := unhide HX _ g1; obtain ⟨c0, c1, c2, c3, c4⟩ := cells5 cx; clear cx g1))
    go_ret
    exact ⟨rfl, unhide HG1⟩
  rw [if_pos hsd] at HI
  have ho : o ≠ 1 := fun z => by subst z; exact absurd hr (by decide)
  have ko : (o == 1) = false := by simpa using ho
  by_cases hlo : m < 0
  case pos =>
    obtain rfl : E = 130 := hE3 hL1 hsd (by unfold fit; simp [hd, ho]; omega)
    have kl : decide (m < 0) = true := decide_eq_true hlo
    clear hE1 hE2 hE3 hE4 hln hL hsd HI0 hL1 hlo
    go_enter Tryd.func57, Tryd.ntmps57
    go_wp2_with (first
      | (go_at_call 26; refine (unhide HS _).mono ?_; rintro e w2 ⟨rfl, rfl⟩)
      | (go_at_call 43; refine (unhide HF _).mono ?_; rintro e w2 ⟨rfl, rfl⟩)
      | (go_at_call 44; refine (unhide HT _).mono ?_; rintro e w2 ⟨rfl, rfl⟩)
      | (go_at_call 45; refine (unhide HD _).mono ?_; rintro e w2 ⟨rfl, rfl⟩)
      | (go_at_call 46; refine (unhide HI _).mono ?_; rintro e z1 ⟨rfl, g1⟩; have HG1 := hide (grew_trans (unhide HG) g1); have cx := unhide HX _ g1; obtain ⟨c0, c1, c2, c3, c4⟩ := cells5 cx; clear cx g1))
    go_ret
    exact ⟨rfl, unhide HG1⟩
  have kl : decide (m < 0) = false := decide_eq_false hlo
  by_cases hhi : m > 65535
  case pos =>
    obtain rfl : E = 130 := hE3 hL1 hsd (by unfold fit; simp [hd, ho]; omega)
    have kh : decide (m > 65535) = true := decide_eq_true hhi
    have kh2 : decide (65535 < m) = true := decide_eq_true hhi
    clear hE1 hE2 hE3 hE4 hln hL hsd HI0 hL1 hlo hhi
    go_enter Tryd.func57, Tryd.ntmps57
    go_wp2_with (first
      | (go_at_call 26; refine (unhide HS _).mono ?_; rintro e w2 ⟨rfl, rfl⟩)
      | (go_at_call 43; refine (unhide HF _).mono ?_; rintro e w2 ⟨rfl, rfl⟩)
      | (go_at_call 44; refine (unhide HT _).mono ?_; rintro e w2 ⟨rfl, rfl⟩)
      | (go_at_call 45; refine (unhide HD _).mono ?_; rintro e w2 ⟨rfl, rfl⟩)
      | (go_at_call 46; refine (unhide HI _).mono ?_; rintro e z1 ⟨rfl, g1⟩; have HG1 := hide (grew_trans (unhide HG) g1); have cx := unhide HX _ g1; obtain ⟨c0, c1, c2, c3, c4⟩ := cells5 cx; clear cx g1))
    go_ret
    exact ⟨rfl, unhide HG1⟩
  have kh : decide (m > 65535) = false := decide_eq_false hhi
  have kh2 : decide (65535 < m) = false := decide_eq_false hhi
  obtain rfl : E = 0 := hE4 hL1 hsd (by unfold fit; simp [hd, ho]; omega)
  clear hE1 hE2 hE3 hE4 hln hL hsd HI0 hL1 hlo hhi
  go_enter Tryd.func57, Tryd.ntmps57
  go_wp2_with (first
    | (go_at_call 26; refine (unhide HS _).mono ?_; rintro e w2 ⟨rfl, rfl⟩)
    | (go_at_call 43; refine (unhide HF _).mono ?_; rintro e w2 ⟨rfl, rfl⟩)
    | (go_at_call 44; refine (unhide HT _).mono ?_; rintro e w2 ⟨rfl, rfl⟩)
    | (go_at_call 45; refine (unhide HD _).mono ?_; rintro e w2 ⟨rfl, rfl⟩)
    | (go_at_call 46; refine (unhide HI _).mono ?_; rintro e z1 ⟨rfl, g1⟩; have HG1 := hide (grew_trans (unhide HG) g1); have cx := unhide HX _ g1; obtain ⟨c0, c1, c2, c3, c4⟩ := cells5 cx; clear cx g1))
  go_ret
  exact ⟨rfl, unhide HG1⟩
theorem rfits_any (d o a b m : Int) (w : World) : Calls Tryd.prog 57 #[iV d o a b m] w fun e w' => e = .returned (.int .i64 (putE ⟨d, o, a, b, m⟩)) ∧ Grew w w' := by
  by_cases h : 0 ≤ o ∧ o < 28
  · have hf := op_facts h.1 h.2
    rcases (by omega : rg o = 0 ∨ rg o = 1 ∨ rg o = 2) with hr | hr | hr <;> rcases (by omega : wd o = 0 ∨ wd o = 1 ∨ wd o = 2) with hd | hd | hd
    · exact rfits00 d o a b m w h.1 h.2 hr hd
    · exact rfits01 d o a b m w h.1 h.2 hr hd
    · exact rfits02 d o a b m w h.1 h.2 hr hd
    · exact rfits10 d o a b m w h.1 h.2 hr hd
    · exact rfits11 d o a b m w h.1 h.2 hr hd
    · exact rfits12 d o a b m w h.1 h.2 hr hd
    · exact rfits20 d o a b m w h.1 h.2 hr hd
    · exact rfits21 d o a b m w h.1 h.2 hr hd
    · exact rfits22 d o a b m w h.1 h.2 hr hd
  · rw [show putE ⟨d, o, a, b, m⟩ = 130 from if_neg fun z => h z.1]
    exact rfits_op d o a b m w h
end Go.Proofs.YtknpfippdddnhaaDoor
