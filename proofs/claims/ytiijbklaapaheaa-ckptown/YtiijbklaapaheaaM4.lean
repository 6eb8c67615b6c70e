/- filled. -/
import Derived.Test.YtiijbklaapaheaaKJ
import Derived.Test.YtiijbklaapaheaaM1
import Derived.Test.YtiijbklaapaheaaShelf
import Derived.Deep.RegionWith
namespace Go.Proofs.Ytiijbklaapaheaa
open Go.RowKit
set_option maxRecDepth 100000

def pageL (zs : List Int) : List Int := zs ++ List.replicate (256 - zs.length) 255

theorem rep_eq (c : UInt8) (n : Nat) : Lib.repeatL [c] n = List.replicate n c := by
  induction n with
  | zero => simp [Lib.repeatL]
  | succ n ih => simp [Lib.repeatL, List.replicate_succ, ih] at *

theorem page_str (zs : List Int) (k : Nat) : strOf zs ++ (⟨(Lib.repeatL [255] k).toArray⟩ : ByteArray) = strOf (zs ++ List.replicate k 255) := by
  unfold strOf
  rw [Go.ByteArray.mk_append_mk, rep_eq, List.map_append, List.map_replicate]
  rfl

theorem box2 {w w1 : World} {x y : Value} {t : TypeId} (hb : Below (w.alloc (.cells #[x, y] t)).drew.heap.size (w.alloc (.cells #[x, y] t)).drew w1) :
    w1.cell? ⟨w.heap.size, 0, none⟩ = some x ∧ w1.cell? ⟨w.heap.size, 1, none⟩ = some y ∧ w1.frozen? ⟨w.heap.size, 0, none⟩ = false ∧ w1.frozen? ⟨w.heap.size, 1, none⟩ = false := by
  have hs : w.heap.size < (w.alloc (.cells #[x, y] t)).drew.heap.size := by simp
  refine ⟨(hb.cell (p := ⟨w.heap.size, 0, none⟩) hs).trans ?_, (hb.cell (p := ⟨w.heap.size, 1, none⟩) hs).trans ?_, (hb.frozen (p := ⟨w.heap.size, 0, none⟩) hs).trans ?_, (hb.frozen (p := ⟨w.heap.size, 1, none⟩) hs).trans ?_⟩
  · exact World.cell?_alloc_mark w #[x, y] t (0, 0) 0
  · exact World.cell?_alloc_mark w #[x, y] t (0, 0) 1
  · exact World.frozen?_alloc_new w #[x, y] t 0
  · exact World.frozen?_alloc_new w #[x, y] t 1

set_option maxRecDepth 100000 in
set_option maxHeartbeats 800000 in
theorem filled_any (bv : Value) (zs : List Int) (w : World) (hs : Sees w .u8 bv zs) (hby : Byt zs) (hl : zs.length ≤ 256) :
    Calls Try.prog 52 #[bv] w fun e w' => e = .returned (.agg #[.int .i64 2, .string (strOf (pageL zs))]) ∧ Below w.heap.size w w' := by
  have HV : Hid (∀ w'', Below w.heap.size w w'' → (convert 22 9 bv).run Try.prog w'' = .ok (.string (strOf zs)) w'') := fun w'' hb => run_conv_sees (P := Try.prog) w'' 22 9 5 bv zs Try.underlying22 Try.underlying5 Try.underlying9 (hs.below hb) hby
  have HR : Hid (∀ w'', Calls Try.prog 81 #[.string ⟨#[255]⟩, .int .i64 (256 - zs.length)] w'' fun e w' => e = .returned (.string ⟨(Lib.repeatL [255] (256 - zs.length)).toArray⟩) ∧ Below w''.heap.size w'' w') := by
    intro w''
    have := Try.strings_Repeat ⟨#[255]⟩ (256 - zs.length) w'' (by omega) (by show 1 * _ ≤ _; omega)
    have e : ((256 - zs.length : Nat) : Int) = 256 - (zs.length : Int) := by omega
    rw [e] at this
    exact this
  have hw : IntKind.i64.wrap (256 - (zs.length : Int)) = 256 - (zs.length : Int) := by simp only [IntKind.wrap_i64]; omega
  obtain ⟨rb, hrb⟩ : ∃ rb, (⟨(Lib.repeatL [255] (256 - zs.length)).toArray⟩ : ByteArray) = rb := ⟨_, rfl⟩
  rw [hrb] at HR
  have HRB := hide hrb
  have b2 : rb.size ≤ 256 := by
    rw [← hrb]
    show (Lib.repeatL [255] (256 - zs.length)).toArray.size ≤ 256
    rw [List.size_toArray, rep_eq, List.length_replicate]
    omega
  obtain ⟨sz, hsz⟩ : ∃ sz, strOf zs = sz := ⟨_, rfl⟩
  rw [hsz] at HV
  have HSZ := hide hsz
  have b1 : sz.size ≤ 256 := by
    rw [← hsz]
    show (zs.map _).toArray.size ≤ 256
    simpa using hl
  have b3 : sz.size + rb.size ≤ 9223372036854775807 := by omega
  clear hrb hsz
  obtain ⟨ao, cap, rfl, hlc, hnil, hc⟩ := hs
  clear hc
  go_enter Try.func52, Try.ntmps52
  go_wp2
  have hv1 := unhide HV _ ((Below.refl _ _).alloc (Nat.le_refl _) (.cells #[.int .i64 0, .string ⟨#[]⟩] 99))
  have hv2 := unhide HV _ ((Below.refl _ _).alloc (Nat.le_refl _) (.cells #[.int .i64 0, .string ⟨#[]⟩] 99)).drew
  go_region_with (go_at_call 81; refine (unhide HR _).mono ?_; rintro e w1 ⟨rfl, hb1⟩; have hv3 := unhide HV w1 (((Below.refl _ _).alloc (Nat.le_refl _) _).drew.trans (hb1.mono (by simp))); obtain ⟨q1, q2, q3, q4⟩ := box2 hb1)
  all_goals
    have hpg : sz ++ rb = strOf (pageL zs) := by rw [← unhide HSZ, ← unhide HRB]; exact page_str zs _
    have hb2 : Below w.heap.size w w1 := ((Below.refl _ _).alloc (Nat.le_refl _) _).drew.trans (hb1.mono (by simp))
    have HPG := hide hpg
    have HB2 := hide hb2
    clear hpg hb2 hb1 hv1 hv2 hv3
    go_wp2
    refine bodyPost_ret (v := .agg #[.int .i64 2, .string (sz ++ rb)]) (by simp [results, Try.results52, go_sem, q1, q2]) rfl ⟨by rw [unhide HPG], ?_⟩
    exact (((unhide HB2).setCell (Nat.le_refl _) _).setCell (Nat.le_refl _) _)
end Go.Proofs.Ytiijbklaapaheaa
