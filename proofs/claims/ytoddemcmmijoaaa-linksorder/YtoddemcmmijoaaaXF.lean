/- Record: transactions that are the same. -/
import Derived.Test.YtoddemcmmijoaaaXE
namespace Go.Proofs.Ytoddemcmmijoaaa
open Go.RowKit
set_option maxRecDepth 100000

theorem sameT_eq (t u : TxnD) : decide (t = u) = (decide (t.ses = u.ses) && decide (t.req = u.req) && decide (t.code = u.code) && decide (t.args = u.args) && decide (t.reads = u.reads) && decide (t.writes = u.writes)) := by
  obtain ⟨a, b, c, d, e, f⟩ := t
  obtain ⟨a', b', c', d', e', f'⟩ := u
  simp [TxnD.mk.injEq, Bool.and_assoc]
theorem str_no {xs ys : List Int} (hx : Byt xs) (hy : Byt ys) (h : xs ≠ ys) : ((strOf xs).toList == (strOf ys).toList) = false := by
  rw [str_beq hx hy]; simpa using h

set_option maxHeartbeats 6400000 in
theorem sameTxn_any (cs ds : Array Value) (t u : TxnD) (w : World) (ht : SeesT w cs t) (hu : SeesT w ds u) (hbt : Byt t.code) (hbu : Byt u.code) (hm : t.args.length ≤ 9223372036854775807) :
    Calls Try.prog 61 #[.agg cs, .agg ds] w fun e w' => e = .returned (.bool (decide (t = u))) ∧ Below w.heap.size w w' := by
  rw [sameT_eq]
  obtain ⟨tses, treq, tcode, targs, treads, twrites⟩ := t
  obtain ⟨uses, ureq, ucode, uargs, ureads, uwrites⟩ := u
  simp only at hbt hbu hm ⊢
  obtain ⟨_, _, _, _, rfl, tc, ta, tr, tw⟩ := ht
  obtain ⟨_, _, _, _, rfl, uc, ua, ur, uw⟩ := hu
  simp only at tc ta tr tw uc ua ur uw
  obtain ⟨ac, acc, rfl, _⟩ := id tc
  obtain ⟨aa, aca, rfl, _⟩ := id ta
  obtain ⟨ar, acr, _, _, rfl, _, tm, _⟩ := id tr
  obtain ⟨aw, acw, _, _, rfl, _, tm2, _⟩ := id tw
  obtain ⟨bc, bcc, rfl, _⟩ := id uc
  obtain ⟨ba, bca, rfl, _⟩ := id ua
  obtain ⟨br, bcr, _, _, rfl, _⟩ := id ur
  obtain ⟨bw, bcw, _, _, rfl, _⟩ := id uw
  have HB : Hid (Below w.heap.size w ((w.alloc (.cells #[.int .i64 tses, .int .i64 treq, .slice ac tcode.length acc, .slice aa targs.length aca, .slice ar treads.length acr, .slice aw twrites.length acw] 81)).alloc (.cells #[.int .i64 uses, .int .i64 ureq, .slice bc ucode.length bcc, .slice ba uargs.length bca, .slice br ureads.length bcr, .slice bw uwrites.length bcw] 81))) := ((Below.refl _ _).alloc (Nat.le_refl _) _).alloc (by simp) _
  have HBX : Hid (∀ w' : World, Below (w.heap.size + 2) ((w.alloc (.cells #[.int .i64 tses, .int .i64 treq, .slice ac tcode.length acc, .slice aa targs.length aca, .slice ar treads.length acr, .slice aw twrites.length acw] 81)).alloc (.cells #[.int .i64 uses, .int .i64 ureq, .slice bc ucode.length bcc, .slice ba uargs.length bca, .slice br ureads.length bcr, .slice bw uwrites.length bcw] 81)) w' → w'.cell? ⟨w.heap.size, 3, none⟩ = some (.slice aa targs.length aca) ∧ w'.cell? ⟨w.heap.size, 4, none⟩ = some (.slice ar treads.length acr) ∧ w'.cell? ⟨w.heap.size, 5, none⟩ = some (.slice aw twrites.length acw) ∧ w'.cell? ⟨w.heap.size + 1, 3, none⟩ = some (.slice ba uargs.length bca) ∧ w'.cell? ⟨w.heap.size + 1, 4, none⟩ = some (.slice br ureads.length bcr) ∧ w'.cell? ⟨w.heap.size + 1, 5, none⟩ = some (.slice bw uwrites.length bcw)) := fun w' hb => by
    have e : (w.alloc (.cells #[.int .i64 tses, .int .i64 treq, .slice ac tcode.length acc, .slice aa targs.length aca, .slice ar treads.length acr, .slice aw twrites.length acw] 81)).heap.size = w.heap.size + 1 := by simp
    refine ⟨?_, ?_, ?_, ?_, ?_, ?_⟩
    · rw [hb.cell (p := ⟨w.heap.size, 3, none⟩) (by simp), World.cell?_alloc_lt _ _ _ (by simp), World.cell?_alloc_new]; rfl
    · rw [hb.cell (p := ⟨w.heap.size, 4, none⟩) (by simp), World.cell?_alloc_lt _ _ _ (by simp), World.cell?_alloc_new]; rfl
    · rw [hb.cell (p := ⟨w.heap.size, 5, none⟩) (by simp), World.cell?_alloc_lt _ _ _ (by simp), World.cell?_alloc_new]; rfl
    · rw [hb.cell (p := ⟨w.heap.size + 1, 3, none⟩) (by simp), ← e, World.cell?_alloc_new]; rfl
    · rw [hb.cell (p := ⟨w.heap.size + 1, 4, none⟩) (by simp), ← e, World.cell?_alloc_new]; rfl
    · rw [hb.cell (p := ⟨w.heap.size + 1, 5, none⟩) (by simp), ← e, World.cell?_alloc_new]; rfl
  have HA : Hid (∀ w', Below w.heap.size w w' → Calls Try.prog 64 #[.slice aa targs.length aca, .slice ba uargs.length bca] w' fun e w2 => e = .returned (.bool (decide (targs = uargs))) ∧ Below w'.heap.size w' w2) := fun w' hb => equalInts_any _ _ _ _ _ (ta.below hb) (ua.below hb) hm
  have HR : Hid (∀ w', Below w.heap.size w w' → Calls Try.prog 65 #[.slice ar treads.length acr, .slice br ureads.length bcr] w' fun e w2 => e = .returned (.bool (decide (treads = ureads))) ∧ Below w'.heap.size w' w2) := fun w' hb => equalKeys_any _ _ _ _ _ (tr.below hb) (ur.below hb) tm
  have HW : Hid (∀ w', Below w.heap.size w w' → Calls Try.prog 65 #[.slice aw twrites.length acw, .slice bw uwrites.length bcw] w' fun e w2 => e = .returned (.bool (decide (twrites = uwrites))) ∧ Below w'.heap.size w' w2) := fun w' hb => equalKeys_any _ _ _ _ _ (tw.below hb) (uw.below hb) tm2
  have HC : Hid (Calls Try.prog 62 #[.slice ac tcode.length acc, .slice bc ucode.length bcc] ((w.alloc (.cells #[.int .i64 tses, .int .i64 treq, .slice ac tcode.length acc, .slice aa targs.length aca, .slice ar treads.length acr, .slice aw twrites.length acw] 81)).alloc (.cells #[.int .i64 uses, .int .i64 ureq, .slice bc ucode.length bcc, .slice ba uargs.length bca, .slice br ureads.length bcr, .slice bw uwrites.length bcw] 81)) fun e w2 => e = .returned (.bool (decide (tcode = ucode))) ∧ ((w.alloc (.cells #[.int .i64 tses, .int .i64 treq, .slice ac tcode.length acc, .slice aa targs.length aca, .slice ar treads.length acr, .slice aw twrites.length acw] 81)).alloc (.cells #[.int .i64 uses, .int .i64 ureq, .slice bc ucode.length bcc, .slice ba uargs.length bca, .slice br ureads.length bcr, .slice bw uwrites.length bcw] 81)) = w2) := equal_any _ _ _ _ _ (tc.below (unhide HB)) (uc.below (unhide HB)) hbt hbu
  clear tc ta tr tw uc ua ur uw tm tm2 hm
  by_cases h1 : tses = uses
  case neg =>
    go_enter Try.func61, Try.ntmps61
    go_wp2_with fail
    go_ret
    exact ⟨retBool (by simp [h1]), unhide HB⟩
  subst h1
  by_cases h2 : treq = ureq
  case neg =>
    go_enter Try.func61, Try.ntmps61
    go_wp2_with fail
    go_ret
    exact ⟨retBool (by simp [h2]), unhide HB⟩
  subst h2
  go_enter Try.func61, Try.ntmps61
  go_wp2_with fail
  refine (unhide HC).mono ?_
  rintro e w2 ⟨rfl, rfl⟩
  by_cases h3 : tcode = ucode
  case neg =>
    have h3d : decide (tcode = ucode) = false := by simpa using h3
    rw [h3d]
    go_wp2_with fail
    go_ret
    exact ⟨retBool (by simp [h3]), unhide HB⟩
  have h3d : decide (tcode = ucode) = true := by simpa using h3
  rw [h3d]
  have H3 := hide h3d
  clear h3 h3d
  go_wp2_with fail
  refine (unhide HA _ (unhide HB)).mono ?_
  rintro e w3 ⟨rfl, hb0⟩
  have HB0 : Hid (Below w.heap.size w w3) := (unhide HB).trans (hb0.mono (unhide HB).size)
  have HX0 : Hid (Below (w.heap.size + 2) ((w.alloc (.cells #[.int .i64 tses, .int .i64 treq, .slice ac tcode.length acc, .slice aa targs.length aca, .slice ar treads.length acr, .slice aw twrites.length acw] 81)).alloc (.cells #[.int .i64 tses, .int .i64 treq, .slice bc ucode.length bcc, .slice ba uargs.length bca, .slice br ureads.length bcr, .slice bw uwrites.length bcw] 81)) w3) := hb0.mono (by simp)
  clear hb0
  by_cases h4 : targs = uargs
  case neg =>
    have hd : decide (targs = uargs) = false := by simpa using h4
    rw [hd]
    go_wp2_with fail
    go_ret
    exact ⟨retBool (by simp [h4]), unhide HB0⟩
  have hd0 : decide (targs = uargs) = true := by simpa using h4
  rw [hd0]
  have HD0 := hide hd0
  clear h4 hd0
  obtain ⟨c00, c01, c02, c03, c04, c05⟩ := unhide HBX w3 (unhide HX0)
  go_wp2_with fail
  refine (unhide HR _ (unhide HB0)).mono ?_
  rintro e w4 ⟨rfl, hb1⟩
  have HB1 : Hid (Below w.heap.size w w4) := (unhide HB0).trans (hb1.mono (unhide HB0).size)
  have HX1 : Hid (Below (w.heap.size + 2) ((w.alloc (.cells #[.int .i64 tses, .int .i64 treq, .slice ac tcode.length acc, .slice aa targs.length aca, .slice ar treads.length acr, .slice aw twrites.length acw] 81)).alloc (.cells #[.int .i64 tses, .int .i64 treq, .slice bc ucode.length bcc, .slice ba uargs.length bca, .slice br ureads.length bcr, .slice bw uwrites.length bcw] 81)) w4) := (unhide HX0).trans (hb1.mono (by have := (unhide HX0).size; simpa using this))
  clear hb1
  by_cases h5 : treads = ureads
  case neg =>
    have hd : decide (treads = ureads) = false := by simpa using h5
    rw [hd]
    go_wp2_with fail
    go_ret
    exact ⟨retBool (by simp [h5]), unhide HB1⟩
  have hd1 : decide (treads = ureads) = true := by simpa using h5
  rw [hd1]
  have HD1 := hide hd1
  clear h5 hd1
  obtain ⟨c10, c11, c12, c13, c14, c15⟩ := unhide HBX w4 (unhide HX1)
  go_wp2_with fail
  refine (unhide HW _ (unhide HB1)).mono ?_
  rintro e w5 ⟨rfl, hb2⟩
  have HB2 : Hid (Below w.heap.size w w5) := (unhide HB1).trans (hb2.mono (unhide HB1).size)
  have HX2 : Hid (Below (w.heap.size + 2) ((w.alloc (.cells #[.int .i64 tses, .int .i64 treq, .slice ac tcode.length acc, .slice aa targs.length aca, .slice ar treads.length acr, .slice aw twrites.length acw] 81)).alloc (.cells #[.int .i64 tses, .int .i64 treq, .slice bc ucode.length bcc, .slice ba uargs.length bca, .slice br ureads.length bcr, .slice bw uwrites.length bcw] 81)) w5) := (unhide HX1).trans (hb2.mono (by have := (unhide HX1).size; simpa using this))
  clear hb2
  go_wp2_with fail
  go_ret
  refine ⟨retBool ?_, unhide HB2⟩
  rw [unhide H3, unhide HD0, unhide HD1]
  simp

set_option maxHeartbeats 6400000 in
theorem refSameTxn_any (cs ds : Array Value) (t u : TxnD) (w : World) (ht : SeesT w cs t) (hu : SeesT w ds u) (hbt : Byt t.code) (hbu : Byt u.code) (hm : t.args.length ≤ 9223372036854775807) :
    Calls Try.prog 35 #[.agg cs, .agg ds] w fun e w' => e = .returned (.bool (decide (t = u))) ∧ Below w.heap.size w w' := by
  rw [sameT_eq]
  obtain ⟨tses, treq, tcode, targs, treads, twrites⟩ := t
  obtain ⟨uses, ureq, ucode, uargs, ureads, uwrites⟩ := u
  simp only at hbt hbu hm ⊢
  obtain ⟨_, _, _, _, rfl, tc, ta, tr, tw⟩ := ht
  obtain ⟨_, _, _, _, rfl, uc, ua, ur, uw⟩ := hu
  simp only at tc ta tr tw uc ua ur uw
  obtain ⟨ac, acc, rfl, _⟩ := id tc
  obtain ⟨aa, aca, rfl, _⟩ := id ta
  obtain ⟨ar, acr, _, _, rfl, _, tm, _⟩ := id tr
  obtain ⟨aw, acw, _, _, rfl, _, tm2, _⟩ := id tw
  obtain ⟨bc, bcc, rfl, _⟩ := id uc
  obtain ⟨ba, bca, rfl, _⟩ := id ua
  obtain ⟨br, bcr, _, _, rfl, _⟩ := id ur
  obtain ⟨bw, bcw, _, _, rfl, _⟩ := id uw
  have HB : Hid (Below w.heap.size w ((w.alloc (.cells #[.int .i64 tses, .int .i64 treq, .slice ac tcode.length acc, .slice aa targs.length aca, .slice ar treads.length acr, .slice aw twrites.length acw] 81)).alloc (.cells #[.int .i64 uses, .int .i64 ureq, .slice bc ucode.length bcc, .slice ba uargs.length bca, .slice br ureads.length bcr, .slice bw uwrites.length bcw] 81))) := ((Below.refl _ _).alloc (Nat.le_refl _) _).alloc (by simp) _
  have HBX : Hid (∀ w' : World, Below (w.heap.size + 2) ((w.alloc (.cells #[.int .i64 tses, .int .i64 treq, .slice ac tcode.length acc, .slice aa targs.length aca, .slice ar treads.length acr, .slice aw twrites.length acw] 81)).alloc (.cells #[.int .i64 uses, .int .i64 ureq, .slice bc ucode.length bcc, .slice ba uargs.length bca, .slice br ureads.length bcr, .slice bw uwrites.length bcw] 81)) w' → w'.cell? ⟨w.heap.size, 3, none⟩ = some (.slice aa targs.length aca) ∧ w'.cell? ⟨w.heap.size, 4, none⟩ = some (.slice ar treads.length acr) ∧ w'.cell? ⟨w.heap.size, 5, none⟩ = some (.slice aw twrites.length acw) ∧ w'.cell? ⟨w.heap.size + 1, 3, none⟩ = some (.slice ba uargs.length bca) ∧ w'.cell? ⟨w.heap.size + 1, 4, none⟩ = some (.slice br ureads.length bcr) ∧ w'.cell? ⟨w.heap.size + 1, 5, none⟩ = some (.slice bw uwrites.length bcw)) := fun w' hb => by
    have e : (w.alloc (.cells #[.int .i64 tses, .int .i64 treq, .slice ac tcode.length acc, .slice aa targs.length aca, .slice ar treads.length acr, .slice aw twrites.length acw] 81)).heap.size = w.heap.size + 1 := by simp
    refine ⟨?_, ?_, ?_, ?_, ?_, ?_⟩
    · rw [hb.cell (p := ⟨w.heap.size, 3, none⟩) (by simp), World.cell?_alloc_lt _ _ _ (by simp), World.cell?_alloc_new]; rfl
    · rw [hb.cell (p := ⟨w.heap.size, 4, none⟩) (by simp), World.cell?_alloc_lt _ _ _ (by simp), World.cell?_alloc_new]; rfl
    · rw [hb.cell (p := ⟨w.heap.size, 5, none⟩) (by simp), World.cell?_alloc_lt _ _ _ (by simp), World.cell?_alloc_new]; rfl
    · rw [hb.cell (p := ⟨w.heap.size + 1, 3, none⟩) (by simp), ← e, World.cell?_alloc_new]; rfl
    · rw [hb.cell (p := ⟨w.heap.size + 1, 4, none⟩) (by simp), ← e, World.cell?_alloc_new]; rfl
    · rw [hb.cell (p := ⟨w.heap.size + 1, 5, none⟩) (by simp), ← e, World.cell?_alloc_new]; rfl
  have HA : Hid (∀ w', Below w.heap.size w w' → Calls Try.prog 44 #[.slice aa targs.length aca, .slice ba uargs.length bca] w' fun e w2 => e = .returned (.bool (decide (targs = uargs))) ∧ Below w'.heap.size w' w2) := fun w' hb => sameInts_any _ _ _ _ _ (ta.below hb) (ua.below hb) hm
  have HR : Hid (∀ w', Below w.heap.size w w' → Calls Try.prog 45 #[.slice ar treads.length acr, .slice br ureads.length bcr] w' fun e w2 => e = .returned (.bool (decide (treads = ureads))) ∧ Below w'.heap.size w' w2) := fun w' hb => sameKeys_any _ _ _ _ _ (tr.below hb) (ur.below hb) tm
  have HW : Hid (∀ w', Below w.heap.size w w' → Calls Try.prog 45 #[.slice aw twrites.length acw, .slice bw uwrites.length bcw] w' fun e w2 => e = .returned (.bool (decide (twrites = uwrites))) ∧ Below w'.heap.size w' w2) := fun w' hb => sameKeys_any _ _ _ _ _ (tw.below hb) (uw.below hb) tm2
  have hcv1 := run_conv_sees (P := Try.prog) ((w.alloc (.cells #[.int .i64 tses, .int .i64 treq, .slice ac tcode.length acc, .slice aa targs.length aca, .slice ar treads.length acr, .slice aw twrites.length acw] 81)).alloc (.cells #[.int .i64 uses, .int .i64 ureq, .slice bc ucode.length bcc, .slice ba uargs.length bca, .slice br ureads.length bcr, .slice bw uwrites.length bcw] 81)) 34 9 5 _ tcode Try.underlying34 Try.underlying5 Try.underlying9 (tc.below (unhide HB)) hbt
  have hcv2 := run_conv_sees (P := Try.prog) ((w.alloc (.cells #[.int .i64 tses, .int .i64 treq, .slice ac tcode.length acc, .slice aa targs.length aca, .slice ar treads.length acr, .slice aw twrites.length acw] 81)).alloc (.cells #[.int .i64 uses, .int .i64 ureq, .slice bc ucode.length bcc, .slice ba uargs.length bca, .slice br ureads.length bcr, .slice bw uwrites.length bcw] 81)) 34 9 5 _ ucode Try.underlying34 Try.underlying5 Try.underlying9 (uc.below (unhide HB)) hbu
  clear tc ta tr tw uc ua ur uw tm tm2 hm
  by_cases h1 : tses = uses
  case neg =>
    go_enter Try.func35, Try.ntmps35
    go_wp2_with fail
    go_ret
    exact ⟨retBool (by simp [h1]), unhide HB⟩
  subst h1
  by_cases h2 : treq = ureq
  case neg =>
    go_enter Try.func35, Try.ntmps35
    go_wp2_with fail
    go_ret
    exact ⟨retBool (by simp [h2]), unhide HB⟩
  subst h2
  by_cases h3 : tcode = ucode
  case neg =>
    have hsn := str_no hbt hbu h3
    go_enter Try.func35, Try.ntmps35
    go_wp2_with fail
    go_ret
    exact ⟨retBool (by simp [h3]), unhide HB⟩
  have hsy : ((strOf tcode).toList == (strOf ucode).toList) = true := by rw [h3]; simp
  have h3d : decide (tcode = ucode) = true := by simpa using h3
  have H3 := hide h3d
  clear h3 h3d
  go_enter Try.func35, Try.ntmps35
  go_wp2_with fail
  refine (unhide HA _ (unhide HB)).mono ?_
  rintro e w3 ⟨rfl, hb0⟩
  have HB0 : Hid (Below w.heap.size w w3) := (unhide HB).trans (hb0.mono (unhide HB).size)
  have HX0 : Hid (Below (w.heap.size + 2) ((w.alloc (.cells #[.int .i64 tses, .int .i64 treq, .slice ac tcode.length acc, .slice aa targs.length aca, .slice ar treads.length acr, .slice aw twrites.length acw] 81)).alloc (.cells #[.int .i64 tses, .int .i64 treq, .slice bc ucode.length bcc, .slice ba uargs.length bca, .slice br ureads.length bcr, .slice bw uwrites.length bcw] 81)) w3) := hb0.mono (by simp)
  clear hb0
  by_cases h4 : targs = uargs
  case neg =>
    have hd : decide (targs = uargs) = false := by simpa using h4
    rw [hd]
    go_wp2_with fail
    go_ret
    exact ⟨retBool (by simp [h4]), unhide HB0⟩
  have hd0 : decide (targs = uargs) = true := by simpa using h4
  rw [hd0]
  have HD0 := hide hd0
  clear h4 hd0
  obtain ⟨c00, c01, c02, c03, c04, c05⟩ := unhide HBX w3 (unhide HX0)
  go_wp2_with fail
  refine (unhide HR _ (unhide HB0)).mono ?_
  rintro e w4 ⟨rfl, hb1⟩
  have HB1 : Hid (Below w.heap.size w w4) := (unhide HB0).trans (hb1.mono (unhide HB0).size)
  have HX1 : Hid (Below (w.heap.size + 2) ((w.alloc (.cells #[.int .i64 tses, .int .i64 treq, .slice ac tcode.length acc, .slice aa targs.length aca, .slice ar treads.length acr, .slice aw twrites.length acw] 81)).alloc (.cells #[.int .i64 tses, .int .i64 treq, .slice bc ucode.length bcc, .slice ba uargs.length bca, .slice br ureads.length bcr, .slice bw uwrites.length bcw] 81)) w4) := (unhide HX0).trans (hb1.mono (by have := (unhide HX0).size; simpa using this))
  clear hb1
  by_cases h5 : treads = ureads
  case neg =>
    have hd : decide (treads = ureads) = false := by simpa using h5
    rw [hd]
    go_wp2_with fail
    go_ret
    exact ⟨retBool (by simp [h5]), unhide HB1⟩
  have hd1 : decide (treads = ureads) = true := by simpa using h5
  rw [hd1]
  have HD1 := hide hd1
  clear h5 hd1
  obtain ⟨c10, c11, c12, c13, c14, c15⟩ := unhide HBX w4 (unhide HX1)
  go_wp2_with fail
  refine (unhide HW _ (unhide HB1)).mono ?_
  rintro e w5 ⟨rfl, hb2⟩
  have HB2 : Hid (Below w.heap.size w w5) := (unhide HB1).trans (hb2.mono (unhide HB1).size)
  have HX2 : Hid (Below (w.heap.size + 2) ((w.alloc (.cells #[.int .i64 tses, .int .i64 treq, .slice ac tcode.length acc, .slice aa targs.length aca, .slice ar treads.length acr, .slice aw twrites.length acw] 81)).alloc (.cells #[.int .i64 tses, .int .i64 treq, .slice bc ucode.length bcc, .slice ba uargs.length bca, .slice br ureads.length bcr, .slice bw uwrites.length bcw] 81)) w5) := (unhide HX1).trans (hb2.mono (by have := (unhide HX1).size; simpa using this))
  clear hb2
  go_wp2_with fail
  go_ret
  refine ⟨retBool ?_, unhide HB2⟩
  rw [unhide H3, unhide HD0, unhide HD1]
  simp

end Go.Proofs.Ytoddemcmmijoaaa
