/- begun. -/
import Derived.Test.YteehhbgjjamjiaaM6
namespace Go.Proofs.Yteehhbgjjamjiaa
open Go.RowKit

/-- A conversion of a literal's slice to its own type marks the place behind its block. -/
theorem conv_mark (w : World) (C : Array Value) (l c : Nat) : (convert 28 28 (.slice (some ⟨w.heap.size, 0, none⟩) l c)).run Try.prog (w.alloc (.cells C 5)) = .ok (.slice (some ⟨w.heap.size, 0, none⟩) l c) (w.alloc (.cells C 5 (C.size, C.size + 1))) := by
  have hsh : (w.alloc (.cells C 5)).shape? w.heap.size = some (5, C.size) := by
    have : (w.alloc (.cells C 5)).heap[w.heap.size]? = some (.cells C 5) := by
      show (w.heap.push (.cells C 5))[w.heap.size]? = _
      simp
    unfold World.shape?
    rw [this]
  have hfr : ∀ n : Nat, (w.alloc (.cells C 5)).freeze ⟨w.heap.size, n, none⟩ 1 = w.alloc (.cells C 5 (n, n + 1)) := fun n => by
    have hm : ∀ (a : Array Obj) (x : Obj) (f : Obj → Obj), (a.push x).modify a.size f = a.push (f x) := by
      intro a x f
      apply Array.ext
      · simp
      · intro i h1 h2
        simp only [Array.getElem_modify, Array.getElem_push]
        by_cases h : a.size = i
        · subst h
          simp
        · have hi : i < a.size := by simp at h1; omega
          simp [h, hi]
    unfold World.freeze
    rw [if_neg (by decide)]
    show ({ w.alloc (.cells C 5) with heap := (w.heap.push (.cells C 5)).modify w.heap.size _ } : World) = _
    rw [hm]
    rfl
  simp [convert, run_underlying Try.underlying28, run_underlying Try.underlying5, markStringish, hsh]
  exact hfr _

/-- Bytes under a marked block. -/
theorem sees_mark (w : World) (zs : List Int) (e : TypeId) (n : Nat) (m : Nat × Nat) (hn : n = zs.length) : Sees (w.alloc (.cells (ints .u8 zs).toArray e m)) .u8 (.slice (some ⟨w.heap.size, 0, none⟩) n n) zs := by
  subst hn
  refine ⟨_, zs.length, rfl, Nat.le_refl _, (fun h => by cases h), fun a h t ht => ?_⟩
  obtain rfl := Option.some.inj h
  have hadd : (⟨w.heap.size, 0, none⟩ : Addr).add t = ⟨w.heap.size, t, none⟩ := by unfold Addr.add; split <;> simp_all
  rw [hadd, World.cell?_alloc_mark]
  simp [ints, List.getD, ht]

/-- The flash of 'begun', step by step. -/
def bF1 : Fl := (Fl.blank 2).changed (putA 1 3) 2 (strOf (pageL [97]))
def bF2 : Fl := { bF1 with cnt := 1, keep := 1 % 3 }
def bF3 : Fl := bF2.changed (anewA 1) 0 ⟨#[]⟩
def bF4 : Fl := { bF3 with down := false }
theorem b1_st : bF1.st 1 3 = 2 := rfl
theorem b1_bs : bF1.bs 1 3 = strOf (pageL [97]) := rfl
theorem b2_code : bF2.code = 7 := rfl
theorem b3_down : bF3.down = true := rfl
theorem b4_st : bF4.st 1 0 = 1 := rfl
theorem byt97 : Byt [97] := by intro b hb; simp at hb; omega
theorem pageL_byt {zs : List Int} (h : Byt zs) : Byt (pageL zs) := h.append fun x hx => by rw [List.mem_replicate] at hx; omega
theorem pageL_length {zs : List Int} (h : zs.length ≤ 256) : (pageL zs).length = 256 := by unfold pageL; rw [List.length_append, List.length_replicate]; omega

set_option maxHeartbeats 1600000 in
theorem begun_any (w : World) : Calls Try.prog 9 #[] w fun e w' => e = .returned (.bool true) ∧ Below w.heap.size w w' := by
  have hcv := fun (w : World) => conv_mark w #[.int .u8 97] 1 1
  have HN := hide (new_ok 2 w (by omega) (by omega))
  go_enter Try.func9, Try.ntmps9
  go_wp2_with (go_at_call 20; refine (unhide HN).mono ?_; rintro e w1 ⟨g, h, cap, rfl, hI1, hb1, hg, hh⟩; have HI1 := hide hI1; have HB1 := hide hb1; clear hI1 hb1)
  refine (prog_ok (F := Fl.blank 2) ((unhide HI1).alloc (.cells #[.int .u8 97] 5 (1, 2))) (Int.le_refl _) (by decide) rfl 1 3 (by decide) (by decide) _ [97] (sees_mark w1 [97] 5 1 (1, 2) rfl) byt97 (by decide) rfl).mono ?_
  rintro e w2 ⟨he, hI2, hU2⟩
  obtain rfl : e = Ending.returned (.int .i64 0) := he
  have HI2 : Hid (IsFl w2 g h cap bF1) := hI2
  have HU2 : Hid (Upd (Two g h) w1.heap.size w1 w2) := ((Upd.refl _ _ _).alloc (Nat.le_refl _) _).trans (hU2.less (by simp))
  clear hI2 hU2 HN hcv HI1
  go_wp2_with fail
  refine (prog_used (unhide HI2) rfl 1 3 (by decide) (by decide) none 0 0 (by decide) (by decide)).mono ?_
  rintro e w3 ⟨rfl, hb3⟩
  have HI3 : Hid (IsFl w3 g h cap bF1) := (unhide HI2).below hb3
  have HU3 : Hid (Upd (Two g h) w1.heap.size w1 w3) := (unhide HU2).trans ((Upd.of hb3).less (unhide HU2).size)
  clear hb3 HI2 HU2
  go_wp2_with fail
  refine (read_ok (unhide HI3) rfl 1 3 (by decide) (by decide) rfl).mono ?_
  rintro e w4 ⟨x, rfl, hx, hb4⟩
  have HI4 : Hid (IsFl w4 g h cap bF1) := (unhide HI3).below hb4
  have HU4 : Hid (Upd (Two g h) w1.heap.size w1 w4) := (unhide HU3).trans ((Upd.of hb4).less (unhide HU3).size)
  have hx : Own8 w3.heap.size w4 x (pageL [97]) := by
    have e1 : bytesOf (bF1.bs 1 3) = pageL [97] := bytesOf_strOf (pageL_byt byt97)
    rw [e1] at hx; exact hx
  obtain ⟨gx, cx, hxe, _, hgx, hxc, _⟩ := hx
  have hlen : (pageL [97]).length = 256 := pageL_length (by decide)
  rw [hlen] at hxe hxc
  subst hxe
  have k0 : w4.cell? ⟨gx, 0, none⟩ = some (.int .u8 97) := hxc 0 (by omega)
  have k1 : w4.cell? ⟨gx, 1, none⟩ = some (.int .u8 255) := hxc 1 (by omega)
  have hgl := (unhide HI3).glt
  have hhl := (unhide HI3).hlt
  have hxl := World.block_lt_of_cell? w4 _ k0
  have hxg : ¬ Two g h gx := by show ¬ (gx = g ∨ gx = h); omega
  have HK : Hid (∀ w', Upd (Two g h) w4.heap.size w4 w' → w'.cell? ⟨gx, 0, none⟩ = some (.int .u8 97) ∧ w'.cell? ⟨gx, 1, none⟩ = some (.int .u8 255)) := fun w' hu => ⟨(hu.cell (p := ⟨gx, 0, none⟩) hxl hxg).trans k0, (hu.cell (p := ⟨gx, 1, none⟩) hxl hxg).trans k1⟩
  clear hb4 HI3 HU3 hxc k0 k1 hlen
  go_wp2_with fail
  refine (fuse_ok (unhide HI4) rfl 1 1 (by decide)).mono ?_
  rintro e w5 ⟨rfl, hI5, hU5⟩
  have HI5 : Hid (IsFl w5 g h cap bF2) := hI5
  have HU5 : Hid (Upd (Two g h) w4.heap.size w4 w5) := hU5
  clear hI5 hU5
  go_wp2_with fail
  refine (erase_ok (F := bF2) (unhide HI5) (by decide) (by decide) rfl 1 (by decide)).mono ?_
  rintro e w6 ⟨he, hI6, hU6⟩
  obtain rfl : e = Ending.returned (.int .i64 7) := he
  have HI6 : Hid (IsFl w6 g h cap bF3) := hI6
  have HU6 : Hid (Upd (Two g h) w4.heap.size w4 w6) := (unhide HU5).trans (hU6.less (unhide HU5).size)
  clear hI6 hU6 HI5 HU5
  go_wp2_with fail
  refine (restart_ok (F := bF3) (unhide HI6) rfl).mono ?_
  rintro e w7 ⟨rfl, hI7, hU7⟩
  have HI7 : Hid (IsFl w7 g h cap bF4) := hI7
  have HU7 : Hid (Upd (Two g h) w4.heap.size w4 w7) := (unhide HU6).trans (hU7.less (unhide HU6).size)
  clear hI7 hU7 HI6 HU6
  go_wp2_with fail
  refine (read_not (F := bF4) (unhide HI7) rfl 1 0 (by decide) (by decide) (by decide)).mono ?_
  rintro e w8 ⟨he, rfl⟩
  obtain rfl : e = Ending.returned (.tuple #[.slice none 0 0, .int .i64 22]) := he
  obtain ⟨k0, k1⟩ := unhide HK _ (unhide HU7)
  go_wp2
  go_ret
  refine ⟨rfl, ?_⟩
  refine (unhide HB1).trans (((unhide HU4).trans ((unhide HU7).less (unhide HU4).size)).below (unhide HB1).size ?_)
  intro k hk
  show ¬ (k = g ∨ k = h)
  omega

end Go.Proofs.Yteehhbgjjamjiaa
