/- Several texts as one. -/
import Derived.Shelf.Strings.Repeat
import Derived.Test.YtiijbklaapaheaaProg
import Derived.Test.YtiijbklaapaheaaKL
import Derived.Test.YtiijbklaapaheaaKG
import Derived.Test.YtiijbklaapaheaaKJ
import Derived.Deep.RegionWith

/-
  DERIVED: THE SHELF's CONTRACTS AT THIS DUMP, IN PLAIN WORDS (tools/lay-plain.mjs out of 'YtiijbklaapaheaaShelfSrc.lean', which tools/lay-shelf.mjs wrote): THE SAME DECLARATIONS UNDER THE SAME NAMES: 'import', 'namespace', 'open', 'def', 'theorem' AND NOTHING ELSE: no command of the shelf's: FOR A HAND-IN. Each laying: the table of numbers ('.._ren') and one theorem, a field a fact of the dump's own or the kernel's comparison; each contract: ONE APPLICATION.
-/
namespace Go.Proofs
open Go.Shelf
def Try.lays105_ren : Go.Shelf.Ren := ⟨fun | 105 => 81 | 212 => 96 | 99 => 97 | 165 => 98 | 166 => 99 | 170 => 100 | 169 => 101 | 263 => 106 | 264 => 107 | 206 => 108 | 240 => 109 | 241 => 110 | 276 => 112 | 277 => 113 | n => n, fun | 9 => 9 | 3 => 3 | 4 => 4 | 20 => 20 | 0 => 0 | 46 => 153 | 109 => 154 | 5 => 5 | 72 => 159 | 76 => 163 | 51 => 170 | 146 => 171 | 53 => 112 | 148 => 173 | 70 => 157 | 37 => 22 | 75 => 162 | 127 => 175 | 164 => 176 | 80 => 165 | n => n, fun | n => n⟩
theorem Try.lays105 : Go.Proofs.Lays.n105 Try.prog Try.lays105_ren := {
  mixed := by kernel_rfl
  f99 := Try.func97.trans (congrArg some (by kernel_rfl))
  f105 := Try.func81.trans (congrArg some (by kernel_rfl))
  f165 := Try.func98.trans (congrArg some (by kernel_rfl))
  f166 := Try.func99.trans (congrArg some (by kernel_rfl))
  f169 := Try.func101.trans (congrArg some (by kernel_rfl))
  f170 := Try.func100.trans (congrArg some (by kernel_rfl))
  f206 := Try.func108.trans (congrArg some (by kernel_rfl))
  f212 := Try.func96.trans (congrArg some (by kernel_rfl))
  f240 := Try.func109.trans (congrArg some (by kernel_rfl))
  f241 := Try.func110.trans (congrArg some (by kernel_rfl))
  f263 := Try.func106.trans (congrArg some (by kernel_rfl))
  f264 := Try.func107.trans (congrArg some (by kernel_rfl))
  f276 := Try.func112.trans (congrArg some (by kernel_rfl))
  f277 := Try.func113.trans (congrArg some (by kernel_rfl))
  t0 := Try.underlying0
  a0 := Try.isAgg0
  z0 := Try.sizeOf0
  v0 := Try.zeroValue0
  t3 := Try.underlying3
  a3 := Try.isAgg3
  z3 := Try.sizeOf3
  v3 := Try.zeroValue3
  t4 := Try.underlying4
  a4 := Try.isAgg4
  z4 := Try.sizeOf4
  v4 := Try.zeroValue4
  t5 := Try.underlying5
  a5 := Try.isAgg5
  z5 := Try.sizeOf5
  v5 := Try.zeroValue5
  t9 := Try.underlying9
  a9 := Try.isAgg9
  z9 := Try.sizeOf9
  v9 := Try.zeroValue9
  t20 := Try.underlying20
  a20 := Try.isAgg20
  z20 := Try.sizeOf20
  v20 := Try.zeroValue20
  t37 := Try.underlying22
  a37 := Try.isAgg22
  z37 := Try.sizeOf22
  v37 := Try.zeroValue22
  t46 := Try.underlying153
  a46 := Try.isAgg153
  z46 := Try.sizeOf153
  v46 := Try.zeroValue153
  t51 := Try.underlying170
  a51 := Try.isAgg170
  z51 := Try.sizeOf170
  v51 := Try.zeroValue170
  t53 := Try.underlying112
  a53 := Try.isAgg112
  z53 := Try.sizeOf112
  v53 := Try.zeroValue112
  t70 := Try.underlying157
  a70 := Try.isAgg157
  z70 := Try.sizeOf157
  v70 := Try.zeroValue157
  t72 := Try.underlying159
  a72 := Try.isAgg159
  z72 := Try.sizeOf159
  v72 := Try.zeroValue159
  t75 := Try.underlying162
  a75 := Try.isAgg162
  z75 := Try.sizeOf162
  v75 := Try.zeroValue162
  t76 := Try.underlying163
  a76 := Try.isAgg163
  z76 := Try.sizeOf163
  v76 := Try.zeroValue163
  t109 := Try.underlying154
  a109 := Try.isAgg154
  z109 := Try.sizeOf154
  v109 := Try.zeroValue154
  t127 := Try.underlying175
  a127 := Try.isAgg175
  z127 := Try.sizeOf175
  v127 := Try.zeroValue175
  t146 := Try.underlying171
  a146 := Try.isAgg171
  z146 := Try.sizeOf171
  v146 := Try.zeroValue171
  t148 := Try.underlying173
  a148 := Try.isAgg173
  z148 := Try.sizeOf173
  v148 := Try.zeroValue173
  t164 := Try.underlying176
  a164 := Try.isAgg176
  z164 := Try.sizeOf176
  v164 := Try.zeroValue176 }
theorem Try.Builder_Extra_105 : Builder.Extra Try.prog Try.lays105_ren := {
  sizeBuilder := by kernel_rfl
  liesBuilder := by kernel_rfl
  t5 := Try.underlying5
  a5 := Try.isAgg5
  z5 := Try.sizeOf5
  v5 := Try.zeroValue5
  infoByte := by kernel_rfl
  cellsByte := by kernel_rfl
  sizeByte := by kernel_rfl
  neB5 := by decide }
open Go.RowKit Go.Lib in
/-- **strings.Repeat: count ≥ 0, the result within one allocation: count copies of s.** (LAID: no walk: one application.) -/
theorem Try.strings_Repeat (s : ByteArray) (c : Nat) (w : World) (hc : c ≤ 9223372036854775807) (hlen : s.size * c ≤ 140737488355328) :
    Calls Try.prog 81 #[.string s, .int .i64 c] w fun e w' => e = .returned (.string ⟨(Lib.repeatL s.data.toList c).toArray⟩) ∧ Below w.heap.size w w' := Any.strings_Repeat Try.lays105 Try.Builder_Extra_105 s c w hc hlen
end Go.Proofs

/- filled. -/
namespace Go.Proofs.Ytiijbklaapaheaa
open Go.RowKit
set_option maxRecDepth 100000

def pageL (zs : List Int) : List Int := zs ++ List.replicate (256 - zs.length) 255

theorem rep_eq (c : UInt8) (n : Nat) : Lib.repeatL [c] n = List.replicate n c := by
  induction n with
  | zero => simp [Lib.repeatL]
  | succ n ih => simp [Lib.repeatL, List.replicate_succ, ih] at *

theorem page_str (zs : List Int) (k : Nat) : strOf zs ++ (⟨(Lib.repeatL [255] k).toArray⟩ : ByteArray) = strOf (zs ++ List.replicate k 255) := by
  unfold strOf
  rw [Go.ByteArray.mk_append_mk, rep_eq, List.map_append, List.map_replicate]
  rfl

theorem box2 {w w1 : World} {x y : Value} {t : TypeId} (hb : Below (w.alloc (.cells #[x, y] t)).drew.heap.size (w.alloc (.cells #[x, y] t)).drew w1) :
    w1.cell? ⟨w.heap.size, 0, none⟩ = some x ∧ w1.cell? ⟨w.heap.size, 1, none⟩ = some y ∧ w1.frozen? ⟨w.heap.size, 0, none⟩ = false ∧ w1.frozen? ⟨w.heap.size, 1, none⟩ = false := by
  have hs : w.heap.size < (w.alloc (.cells #[x, y] t)).drew.heap.size := by simp
  refine ⟨(hb.cell (p := ⟨w.heap.size, 0, none⟩) hs).trans ?_, (hb.cell (p := ⟨w.heap.size, 1, none⟩) hs).trans ?_, (hb.frozen (p := ⟨w.heap.size, 0, none⟩) hs).trans ?_, (hb.frozen (p := ⟨w.heap.size, 1, none⟩) hs).trans ?_⟩
  · exact World.cell?_alloc_mark w #[x, y] t (0, 0) 0
  · exact World.cell?_alloc_mark w #[x, y] t (0, 0) 1
  · exact World.frozen?_alloc_new w #[x, y] t 0
  · exact World.frozen?_alloc_new w #[x, y] t 1

set_option maxRecDepth 100000 in
set_option maxHeartbeats 800000 in
theorem filled_any (bv : Value) (zs : List Int) (w : World) (hs : Sees w .u8 bv zs) (hby : Byt zs) (hl : zs.length ≤ 256) :
    Calls Try.prog 52 #[bv] w fun e w' => e = .returned (.agg #[.int .i64 2, .string (strOf (pageL zs))]) ∧ Below w.heap.size w w' := by
  have HV : Hid (∀ w'', Below w.heap.size w w'' → (convert 22 9 bv).run Try.prog w'' = .ok (.string (strOf zs)) w'') := fun w'' hb => run_conv_sees (P := Try.prog) w'' 22 9 5 bv zs Try.underlying22 Try.underlying5 Try.underlying9 (hs.below hb) hby
  have HR : Hid (∀ w'', Calls Try.prog 81 #[.string ⟨#[255]⟩, .int .i64 (256 - zs.length)] w'' fun e w' => e = .returned (.string ⟨(Lib.repeatL [255] (256 - zs.length)).toArray⟩) ∧ Below w''.heap.size w'' w') := by
    intro w''
    have := Try.strings_Repeat ⟨#[255]⟩ (256 - zs.length) w'' (by omega) (by show 1 * _ ≤ _; omega)
    have e : ((256 - zs.length : Nat) : Int) = 256 - (zs.length : Int) := by omega
    rw [e] at this
    exact this
  have hw : IntKind.i64.wrap (256 - (zs.length : Int)) = 256 - (zs.length : Int) := by simp only [IntKind.wrap_i64]; omega
  obtain ⟨rb, hrb⟩ : ∃ rb, (⟨(Lib.repeatL [255] (256 - zs.length)).toArray⟩ : ByteArray) = rb := ⟨_, rfl⟩
  rw [hrb] at HR
  have HRB := hide hrb
  have b2 : rb.size ≤ 256 := by
    rw [← hrb]
    show (Lib.repeatL [255] (256 - zs.length)).toArray.size ≤ 256
    rw [List.size_toArray, rep_eq, List.length_replicate]
    omega
  obtain ⟨sz, hsz⟩ : ∃ sz, strOf zs = sz := ⟨_, rfl⟩
  rw [hsz] at HV
  have HSZ := hide hsz
  have b1 : sz.size ≤ 256 := by
    rw [← hsz]
    show (zs.map _).toArray.size ≤ 256
    simpa using hl
  have b3 : sz.size + rb.size ≤ 9223372036854775807 := by omega
  clear hrb hsz
  obtain ⟨ao, cap, rfl, hlc, hnil, hc⟩ := hs
  clear hc
  go_enter Try.func52, Try.ntmps52
  go_wp2
  have hv1 := unhide HV _ ((Below.refl _ _).alloc (Nat.le_refl _) (.cells #[.int .i64 0, .string ⟨#[]⟩] 99))
  have hv2 := unhide HV _ ((Below.refl _ _).alloc (Nat.le_refl _) (.cells #[.int .i64 0, .string ⟨#[]⟩] 99)).drew
  go_region_with (go_at_call 81; refine (unhide HR _).mono ?_; rintro e w1 ⟨rfl, hb1⟩; have hv3 := unhide HV w1 (((Below.refl _ _).alloc (Nat.le_refl _) _).drew.trans (hb1.mono (by simp))); obtain ⟨q1, q2, q3, q4⟩ := box2 hb1)
  all_goals
    have hpg : sz ++ rb = strOf (pageL zs) := by rw [← unhide HSZ, ← unhide HRB]; exact page_str zs _
    have hb2 : Below w.heap.size w w1 := ((Below.refl _ _).alloc (Nat.le_refl _) _).drew.trans (hb1.mono (by simp))
    have HPG := hide hpg
    have HB2 := hide hb2
    clear hpg hb2 hb1 hv1 hv2 hv3
    go_wp2
    refine bodyPost_ret (v := .agg #[.int .i64 2, .string (sz ++ rb)]) (by simp [results, Try.results52, go_sem, q1, q2]) rfl ⟨by rw [unhide HPG], ?_⟩
    exact (((unhide HB2).setCell (Nat.le_refl _) _).setCell (Nat.le_refl _) _)
end Go.Proofs.Ytiijbklaapaheaa
