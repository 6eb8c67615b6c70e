/- Several texts as one. -/
import Derived.Test.YtiijbklaapaheaaGreatKS

/- begun. -/
namespace Go.Proofs.YtiijbklaapaheaaGreat
open Go.RowKit
set_option maxRecDepth 100000

/-- A conversion of a literal's slice to its own type marks the place behind its block. -/
theorem conv_mark (w : World) (C : Array Value) (l c : Nat) : (convert 33 33 (.slice (some ⟨w.heap.size, 0, none⟩) l c)).run Tryz.prog (w.alloc (.cells C 5)) = .ok (.slice (some ⟨w.heap.size, 0, none⟩) l c) (w.alloc (.cells C 5 (C.size, C.size + 1))) := by
  have hsh : (w.alloc (.cells C 5)).shape? w.heap.size = some (5, C.size) := by
    have : (w.alloc (.cells C 5)).heap[w.heap.size]? = some (.cells C 5) := by
      show (w.heap.push (.cells C 5))[w.heap.size]? = _
      simp
    unfold World.shape?
    rw [this]
  have hfr : ∀ n : Nat, (w.alloc (.cells C 5)).freeze ⟨w.heap.size, n, none⟩ 1 = w.alloc (.cells C 5 (n, n + 1)) := fun n => by
    have hm : ∀ (a : Array Obj) (x : Obj) (f : Obj → Obj), (a.push x).modify a.size f = a.push (f x) := by
      intro a x f
      apply Array.ext
      · simp
      · intro i h1 h2
        simp only [Array.getElem_modify, Array.getElem_push]
        by_cases h : a.size = i
        · subst h
          simp
        · have hi : i < a.size := by simp at h1; omega
          simp [h, hi]
    unfold World.freeze
    rw [if_neg (by decide)]
    show ({ w.alloc (.cells C 5) with heap := (w.heap.push (.cells C 5)).modify w.heap.size _ } : World) = _
    rw [hm]
    rfl
  simp [convert, run_underlying Tryz.underlying33, run_underlying Tryz.underlying5, markStringish, hsh]
  exact hfr _

/-- Bytes under a marked block. -/
theorem sees_mark (w : World) (zs : List Int) (e : TypeId) (n : Nat) (m : Nat × Nat) (hn : n = zs.length) : Sees (w.alloc (.cells (ints .u8 zs).toArray e m)) .u8 (.slice (some ⟨w.heap.size, 0, none⟩) n n) zs := by
  subst hn
  refine ⟨_, zs.length, rfl, Nat.le_refl _, (fun h => by cases h), fun a h t ht => ?_⟩
  obtain rfl := Option.some.inj h
  have hadd : (⟨w.heap.size, 0, none⟩ : Addr).add t = ⟨w.heap.size, t, none⟩ := by unfold Addr.add; split <;> simp_all
  rw [hadd, World.cell?_alloc_mark]
  simp [ints, List.getD, ht]

/-- The flash of 'begun', step by step. -/
def bF1 : Fl := (Fl.blank 2).changed (putA 1 3) 2 (strOf (pageL [97]))
def bF2 : Fl := { bF1 with cnt := 1, keep := 1 % 3 }
def bF3 : Fl := bF2.changed (anewA 1) 0 ⟨#[]⟩
def bF4 : Fl := { bF3 with down := false }
theorem b1_st : bF1.st 1 3 = 2 := rfl
theorem b1_bs : bF1.bs 1 3 = strOf (pageL [97]) := rfl
theorem b2_code : bF2.code = 7 := rfl
theorem b3_down : bF3.down = true := rfl
theorem b4_st : bF4.st 1 0 = 1 := rfl
theorem byt97 : Byt [97] := by intro b hb; simp at hb; omega
theorem pageL_byt {zs : List Int} (h : Byt zs) : Byt (pageL zs) := h.append fun x hx => by rw [List.mem_replicate] at hx; omega
theorem pageL_length {zs : List Int} (h : zs.length ≤ 256) : (pageL zs).length = 256 := by unfold pageL; rw [List.length_append, List.length_replicate]; omega

end Go.Proofs.YtiijbklaapaheaaGreat

/- The document's Full. -/
namespace Go.Proofs.YtiijbklaapaheaaGreat
open Go.RowKit
set_option maxRecDepth 100000

theorem rep_snoc (k : Nat) : List.replicate (k + 1) (255 : Int) = List.replicate k 255 ++ [255] := List.replicate_succ'

def lenOf : Value → Nat | .slice _ n _ => n | _ => 0

set_option maxRecDepth 100000 in
set_option maxHeartbeats 800000 in
theorem full_any (bv : Value) (zs : List Int) (w : World) (hs : Sees w .u8 bv zs) (hl : zs.length ≤ 256) :
    Calls Tryz.prog 55 #[bv] w fun e w' => ∃ x, e = .returned x ∧ Sees w' .u8 x (pageL zs) ∧ Below w.heap.size w w' := by
  obtain ⟨i0, hi, hz0, hz1, hz2⟩ := info_parts Tryz.info5
  have HS := hide hs
  go_enter Tryz.func55, Tryz.ntmps55
  go_wp2_with (at_builtin; refine wpList_append_sees rfl _ _ 33 rfl w.heap.size 5 i0 (.int .u8 0) 1 Tryz.underlying33 hi hz0 hz1 hz2 rfl _ 0 [] rfl (World.ownsRow_nil _ _ _ _) .u8 _ zs rfl ?d0 ?d1 ?d2 ?d3 ?_)
  case d0 => exact unhide HS
  case d1 => unfold maxLen; omega
  case d2 => omega
  case d3 => exact Nat.le_refl _
  intro x w1 ho hg
  have hb1 : Below w.heap.size w w1 := (Below.refl _ _).grown hg (Nat.le_refl _) (fun k hk => by simp [Value.ownBlock] at hk)
  have ho : w1.ownsRow w.heap.size 5 1 x zs.length (ints .u8 zs) := by simpa using ho
  have HO := hide ho
  have HB := hide hb1
  clear ho hg hb1 hs
  go_wp2
  go_loopw [3] (fun v wr => ∃ k : Nat, zs.length + k ≤ 256 ∧ wr.ownsRow w.heap.size 5 1 v (zs.length + k) (ints .u8 (zs ++ List.replicate k 255)) ∧ Below w.heap.size w wr) (fun v _ => 256 - lenOf v)
  case atStart => exact ⟨0, by omega, by simpa using unhide HO, unhide HB⟩
  case round =>
    obtain ⟨k, hk, hown, hbl⟩ := hrel
    obtain ⟨ao, cp, rfl⟩ := own_shape hown
    have HO := hide hown
    have HBL := hide hbl
    by_cases hlt : zs.length + k < 256
    · clear hown hbl
      go_wp2_with (at_builtin; refine wpList_append_sees rfl _ _ 33 rfl w.heap.size 5 i0 (.int .u8 0) 1 Tryz.underlying33 hi hz0 hz1 hz2 rfl _ _ _ rfl (own_below (unhide HO) ((Below.refl _ _).alloc (Nat.le_refl _) _)) .u8 _ [255] rfl ?d0 ?d1 ?d2 ?d3 ?_)
      case d0 => exact sees_new wr .u8 [255] 5 1 rfl
      case d1 => unfold maxLen; simp; omega
      case d2 => simp; omega
      case d3 => exact Nat.le_trans (unhide HBL).size (by simp)
      intro x' w2 ho' hg'
      have ho2 : w2.ownsRow w.heap.size 5 1 x' (zs.length + (k + 1)) (ints .u8 (zs ++ List.replicate (k + 1) 255)) := by
        rw [rep_snoc, ← List.append_assoc, ints_append]; exact ho'
      have hb2 : Below w.heap.size w w2 := ((unhide HBL).alloc (unhide HBL).size _).grown hg' (Nat.le_trans (unhide HBL).size (by simp)) (own_block_le (unhide HO))
      obtain ⟨ao', cp', rfl⟩ := own_shape ho2
      have HO2 := hide ho2
      have HB2 := hide hb2
      clear ho' hg' ho2 hb2
      go_wp2
      go_roundw
      case rel => exact ⟨k + 1, by omega, unhide HO2, unhide HB2⟩
      case measure => simp [lenOf]; omega
    · obtain ⟨k', hk'⟩ : ∃ k', k' = 256 - zs.length := ⟨_, rfl⟩
      have : k = 256 - zs.length := by omega
      clear hown hbl
      go_wp2
      go_ret
      refine ⟨_, rfl, ?_, unhide HBL⟩
      have := (sees_of_own (unhide HO)).2
      unfold pageL
      rw [show 256 - zs.length = k by omega]
      exact this

end Go.Proofs.YtiijbklaapaheaaGreat

/- The document's Full. -/
namespace Go.Proofs.YtiijbklaapaheaaGreat
open Go.RowKit
set_option maxRecDepth 100000

set_option maxRecDepth 100000 in
set_option maxHeartbeats 800000 in
theorem full_any' (bv : Value) (zs : List Int) (w : World) (hs : Sees w .u8 bv zs) (hl : zs.length ≤ 256) :
    Calls Tryz.prog 55 #[bv] w fun e w' => ∃ x, e = .returned x ∧ w'.ownsRow w.heap.size 5 1 x 256 (ints .u8 (pageL zs)) ∧ Below w.heap.size w w' := by
  obtain ⟨i0, hi, hz0, hz1, hz2⟩ := info_parts Tryz.info5
  have HS := hide hs
  go_enter Tryz.func55, Tryz.ntmps55
  go_wp2_with (at_builtin; refine wpList_append_sees rfl _ _ 33 rfl w.heap.size 5 i0 (.int .u8 0) 1 Tryz.underlying33 hi hz0 hz1 hz2 rfl _ 0 [] rfl (World.ownsRow_nil _ _ _ _) .u8 _ zs rfl ?d0 ?d1 ?d2 ?d3 ?_)
  case d0 => exact unhide HS
  case d1 => unfold maxLen; omega
  case d2 => omega
  case d3 => exact Nat.le_refl _
  intro x w1 ho hg
  have hb1 : Below w.heap.size w w1 := (Below.refl _ _).grown hg (Nat.le_refl _) (fun k hk => by simp [Value.ownBlock] at hk)
  have ho : w1.ownsRow w.heap.size 5 1 x zs.length (ints .u8 zs) := by simpa using ho
  have HO := hide ho
  have HB := hide hb1
  clear ho hg hb1 hs
  go_wp2
  go_loopw [3] (fun v wr => ∃ k : Nat, zs.length + k ≤ 256 ∧ wr.ownsRow w.heap.size 5 1 v (zs.length + k) (ints .u8 (zs ++ List.replicate k 255)) ∧ Below w.heap.size w wr) (fun v _ => 256 - lenOf v)
  case atStart => exact ⟨0, by omega, by simpa using unhide HO, unhide HB⟩
  case round =>
    obtain ⟨k, hk, hown, hbl⟩ := hrel
    obtain ⟨ao, cp, rfl⟩ := own_shape hown
    have HO := hide hown
    have HBL := hide hbl
    by_cases hlt : zs.length + k < 256
    · clear hown hbl
      go_wp2_with (at_builtin; refine wpList_append_sees rfl _ _ 33 rfl w.heap.size 5 i0 (.int .u8 0) 1 Tryz.underlying33 hi hz0 hz1 hz2 rfl _ _ _ rfl (own_below (unhide HO) ((Below.refl _ _).alloc (Nat.le_refl _) _)) .u8 _ [255] rfl ?d0 ?d1 ?d2 ?d3 ?_)
      case d0 => exact sees_new wr .u8 [255] 5 1 rfl
      case d1 => unfold maxLen; simp; omega
      case d2 => simp; omega
      case d3 => exact Nat.le_trans (unhide HBL).size (by simp)
      intro x' w2 ho' hg'
      have ho2 : w2.ownsRow w.heap.size 5 1 x' (zs.length + (k + 1)) (ints .u8 (zs ++ List.replicate (k + 1) 255)) := by
        rw [rep_snoc, ← List.append_assoc, ints_append]; exact ho'
      have hb2 : Below w.heap.size w w2 := ((unhide HBL).alloc (unhide HBL).size _).grown hg' (Nat.le_trans (unhide HBL).size (by simp)) (own_block_le (unhide HO))
      obtain ⟨ao', cp', rfl⟩ := own_shape ho2
      have HO2 := hide ho2
      have HB2 := hide hb2
      clear ho' hg' ho2 hb2
      go_wp2
      go_roundw
      case rel => exact ⟨k + 1, by omega, unhide HO2, unhide HB2⟩
      case measure => simp [lenOf]; omega
    · obtain ⟨k', hk'⟩ : ∃ k', k' = 256 - zs.length := ⟨_, rfl⟩
      have : k = 256 - zs.length := by omega
      clear hown hbl
      go_wp2
      go_ret
      refine ⟨_, rfl, ?_, unhide HBL⟩
      have := unhide HO
      unfold pageL
      rw [show 256 - zs.length = k by omega]
      rw [show zs.length + k = 256 by omega] at this
      show wr.ownsRow w.heap.size 5 1 (.slice ao (zs.length + k) cp) 256 (ints .u8 (zs ++ List.replicate k 255))
      rw [show zs.length + k = 256 by omega]
      exact this

end Go.Proofs.YtiijbklaapaheaaGreat
