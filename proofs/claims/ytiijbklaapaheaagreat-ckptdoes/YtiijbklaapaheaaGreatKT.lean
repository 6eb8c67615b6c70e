/- Several texts as one. -/
import Derived.Shelf.Strings.Repeat
import Derived.Test.YtiijbklaapaheaaGreatProg
import Derived.Test.YtiijbklaapaheaaGreatKZ30
import Derived.Test.YtiijbklaapaheaaGreatKR
import Derived.Test.YtiijbklaapaheaaGreatKX
import Derived.Deep.RegionWith

/-
  DERIVED: THE SHELF's CONTRACTS AT THIS DUMP, IN PLAIN WORDS (tools/lay-plain.mjs out of 'YtiijbklaapaheaaGreatShelfSrc.lean', which tools/lay-shelf.mjs wrote): THE SAME DECLARATIONS UNDER THE SAME NAMES: 'import', 'namespace', 'open', 'def', 'theorem' AND NOTHING ELSE: no command of the shelf's: FOR A HAND-IN. Each laying: the table of numbers ('.._ren') and one theorem, a field a fact of the dump's own or the kernel's comparison; each contract: ONE APPLICATION.
-/
namespace Go.Proofs
open Go.Shelf
def Tryz.lays105_ren : Go.Shelf.Ren := ⟨fun | 105 => 76 | 212 => 92 | 99 => 93 | 165 => 94 | 166 => 95 | 170 => 96 | 169 => 97 | 263 => 110 | 264 => 111 | 206 => 112 | 240 => 113 | 241 => 114 | 276 => 123 | 277 => 124 | n => n, fun | 9 => 9 | 3 => 3 | 4 => 4 | 20 => 20 | 0 => 0 | 46 => 145 | 109 => 146 | 5 => 5 | 72 => 151 | 76 => 155 | 51 => 168 | 146 => 169 | 53 => 135 | 148 => 171 | 70 => 149 | 37 => 33 | 75 => 154 | 127 => 173 | 164 => 185 | 80 => 157 | n => n, fun | n => n⟩
theorem Tryz.lays105 : Go.Proofs.Lays.n105 Tryz.prog Tryz.lays105_ren := {
  mixed := by kernel_rfl
  f99 := Tryz.func93.trans (congrArg some (by kernel_rfl))
  f105 := Tryz.func76.trans (congrArg some (by kernel_rfl))
  f165 := Tryz.func94.trans (congrArg some (by kernel_rfl))
  f166 := Tryz.func95.trans (congrArg some (by kernel_rfl))
  f169 := Tryz.func97.trans (congrArg some (by kernel_rfl))
  f170 := Tryz.func96.trans (congrArg some (by kernel_rfl))
  f206 := Tryz.func112.trans (congrArg some (by kernel_rfl))
  f212 := Tryz.func92.trans (congrArg some (by kernel_rfl))
  f240 := Tryz.func113.trans (congrArg some (by kernel_rfl))
  f241 := Tryz.func114.trans (congrArg some (by kernel_rfl))
  f263 := Tryz.func110.trans (congrArg some (by kernel_rfl))
  f264 := Tryz.func111.trans (congrArg some (by kernel_rfl))
  f276 := Tryz.func123.trans (congrArg some (by kernel_rfl))
  f277 := Tryz.func124.trans (congrArg some (by kernel_rfl))
  t0 := Tryz.underlying0
  a0 := Tryz.isAgg0
  z0 := Tryz.sizeOf0
  v0 := Tryz.zeroValue0
  t3 := Tryz.underlying3
  a3 := Tryz.isAgg3
  z3 := Tryz.sizeOf3
  v3 := Tryz.zeroValue3
  t4 := Tryz.underlying4
  a4 := Tryz.isAgg4
  z4 := Tryz.sizeOf4
  v4 := Tryz.zeroValue4
  t5 := Tryz.underlying5
  a5 := Tryz.isAgg5
  z5 := Tryz.sizeOf5
  v5 := Tryz.zeroValue5
  t9 := Tryz.underlying9
  a9 := Tryz.isAgg9
  z9 := Tryz.sizeOf9
  v9 := Tryz.zeroValue9
  t20 := Tryz.underlying20
  a20 := Tryz.isAgg20
  z20 := Tryz.sizeOf20
  v20 := Tryz.zeroValue20
  t37 := Tryz.underlying33
  a37 := Tryz.isAgg33
  z37 := Tryz.sizeOf33
  v37 := Tryz.zeroValue33
  t46 := Tryz.underlying145
  a46 := Tryz.isAgg145
  z46 := Tryz.sizeOf145
  v46 := Tryz.zeroValue145
  t51 := Tryz.underlying168
  a51 := Tryz.isAgg168
  z51 := Tryz.sizeOf168
  v51 := Tryz.zeroValue168
  t53 := Tryz.underlying135
  a53 := Tryz.isAgg135
  z53 := Tryz.sizeOf135
  v53 := Tryz.zeroValue135
  t70 := Tryz.underlying149
  a70 := Tryz.isAgg149
  z70 := Tryz.sizeOf149
  v70 := Tryz.zeroValue149
  t72 := Tryz.underlying151
  a72 := Tryz.isAgg151
  z72 := Tryz.sizeOf151
  v72 := Tryz.zeroValue151
  t75 := Tryz.underlying154
  a75 := Tryz.isAgg154
  z75 := Tryz.sizeOf154
  v75 := Tryz.zeroValue154
  t76 := Tryz.underlying155
  a76 := Tryz.isAgg155
  z76 := Tryz.sizeOf155
  v76 := Tryz.zeroValue155
  t109 := Tryz.underlying146
  a109 := Tryz.isAgg146
  z109 := Tryz.sizeOf146
  v109 := Tryz.zeroValue146
  t127 := Tryz.underlying173
  a127 := Tryz.isAgg173
  z127 := Tryz.sizeOf173
  v127 := Tryz.zeroValue173
  t146 := Tryz.underlying169
  a146 := Tryz.isAgg169
  z146 := Tryz.sizeOf169
  v146 := Tryz.zeroValue169
  t148 := Tryz.underlying171
  a148 := Tryz.isAgg171
  z148 := Tryz.sizeOf171
  v148 := Tryz.zeroValue171
  t164 := Tryz.underlying185
  a164 := Tryz.isAgg185
  z164 := Tryz.sizeOf185
  v164 := Tryz.zeroValue185 }
theorem Tryz.Builder_Extra_105 : Builder.Extra Tryz.prog Tryz.lays105_ren := {
  sizeBuilder := by kernel_rfl
  liesBuilder := by kernel_rfl
  t5 := Tryz.underlying5
  a5 := Tryz.isAgg5
  z5 := Tryz.sizeOf5
  v5 := Tryz.zeroValue5
  infoByte := by kernel_rfl
  cellsByte := by kernel_rfl
  sizeByte := by kernel_rfl
  neB5 := by decide }
open Go.RowKit Go.Lib in
/-- **strings.Repeat: count ≥ 0, the result within one allocation: count copies of s.** (LAID: no walk: one application.) -/
theorem Tryz.strings_Repeat (s : ByteArray) (c : Nat) (w : World) (hc : c ≤ 9223372036854775807) (hlen : s.size * c ≤ 140737488355328) :
    Calls Tryz.prog 76 #[.string s, .int .i64 c] w fun e w' => e = .returned (.string ⟨(Lib.repeatL s.data.toList c).toArray⟩) ∧ Below w.heap.size w w' := Any.strings_Repeat Tryz.lays105 Tryz.Builder_Extra_105 s c w hc hlen
end Go.Proofs

/- filled. -/
namespace Go.Proofs.YtiijbklaapaheaaGreat
open Go.RowKit
set_option maxRecDepth 100000

def pageL (zs : List Int) : List Int := zs ++ List.replicate (256 - zs.length) 255

theorem rep_eq (c : UInt8) (n : Nat) : Lib.repeatL [c] n = List.replicate n c := by
  induction n with
  | zero => simp [Lib.repeatL]
  | succ n ih => simp [Lib.repeatL, List.replicate_succ, ih] at *

theorem page_str (zs : List Int) (k : Nat) : strOf zs ++ (⟨(Lib.repeatL [255] k).toArray⟩ : ByteArray) = strOf (zs ++ List.replicate k 255) := by
  unfold strOf
  rw [Go.ByteArray.mk_append_mk, rep_eq, List.map_append, List.map_replicate]
  rfl

theorem box2 {w w1 : World} {x y : Value} {t : TypeId} (hb : Below (w.alloc (.cells #[x, y] t)).drew.heap.size (w.alloc (.cells #[x, y] t)).drew w1) :
    w1.cell? ⟨w.heap.size, 0, none⟩ = some x ∧ w1.cell? ⟨w.heap.size, 1, none⟩ = some y ∧ w1.frozen? ⟨w.heap.size, 0, none⟩ = false ∧ w1.frozen? ⟨w.heap.size, 1, none⟩ = false := by
  have hs : w.heap.size < (w.alloc (.cells #[x, y] t)).drew.heap.size := by simp
  refine ⟨(hb.cell (p := ⟨w.heap.size, 0, none⟩) hs).trans ?_, (hb.cell (p := ⟨w.heap.size, 1, none⟩) hs).trans ?_, (hb.frozen (p := ⟨w.heap.size, 0, none⟩) hs).trans ?_, (hb.frozen (p := ⟨w.heap.size, 1, none⟩) hs).trans ?_⟩
  · exact World.cell?_alloc_mark w #[x, y] t (0, 0) 0
  · exact World.cell?_alloc_mark w #[x, y] t (0, 0) 1
  · exact World.frozen?_alloc_new w #[x, y] t 0
  · exact World.frozen?_alloc_new w #[x, y] t 1

set_option maxRecDepth 100000 in
set_option maxHeartbeats 800000 in
theorem filled_any (bv : Value) (zs : List Int) (w : World) (hs : Sees w .u8 bv zs) (hby : Byt zs) (hl : zs.length ≤ 256) :
    Calls Tryz.prog 53 #[bv] w fun e w' => e = .returned (.agg #[.int .i64 2, .string (strOf (pageL zs))]) ∧ Below w.heap.size w w' := by
  have HV : Hid (∀ w'', Below w.heap.size w w'' → (convert 33 9 bv).run Tryz.prog w'' = .ok (.string (strOf zs)) w'') := fun w'' hb => run_conv_sees (P := Tryz.prog) w'' 33 9 5 bv zs Tryz.underlying33 Tryz.underlying5 Tryz.underlying9 (hs.below hb) hby
  have HR : Hid (∀ w'', Calls Tryz.prog 76 #[.string ⟨#[255]⟩, .int .i64 (256 - zs.length)] w'' fun e w' => e = .returned (.string ⟨(Lib.repeatL [255] (256 - zs.length)).toArray⟩) ∧ Below w''.heap.size w'' w') := by
    intro w''
    have := Tryz.strings_Repeat ⟨#[255]⟩ (256 - zs.length) w'' (by omega) (by show 1 * _ ≤ _; omega)
    have e : ((256 - zs.length : Nat) : Int) = 256 - (zs.length : Int) := by omega
    rw [e] at this
    exact this
  have hw : IntKind.i64.wrap (256 - (zs.length : Int)) = 256 - (zs.length : Int) := by simp only [IntKind.wrap_i64]; omega
  obtain ⟨rb, hrb⟩ : ∃ rb, (⟨(Lib.repeatL [255] (256 - zs.length)).toArray⟩ : ByteArray) = rb := ⟨_, rfl⟩
  rw [hrb] at HR
  have HRB := hide hrb
  have b2 : rb.size ≤ 256 := by
    rw [← hrb]
    show (Lib.repeatL [255] (256 - zs.length)).toArray.size ≤ 256
    rw [List.size_toArray, rep_eq, List.length_replicate]
    omega
  obtain ⟨sz, hsz⟩ : ∃ sz, strOf zs = sz := ⟨_, rfl⟩
  rw [hsz] at HV
  have HSZ := hide hsz
  have b1 : sz.size ≤ 256 := by
    rw [← hsz]
    show (zs.map _).toArray.size ≤ 256
    simpa using hl
  have b3 : sz.size + rb.size ≤ 9223372036854775807 := by omega
  clear hrb hsz
  obtain ⟨ao, cap, rfl, hlc, hnil, hc⟩ := hs
  clear hc
  go_enter Tryz.func53, Tryz.ntmps53
  go_wp2
  have hv1 := unhide HV _ ((Below.refl _ _).alloc (Nat.le_refl _) (.cells #[.int .i64 0, .string ⟨#[]⟩] 96))
  have hv2 := unhide HV _ ((Below.refl _ _).alloc (Nat.le_refl _) (.cells #[.int .i64 0, .string ⟨#[]⟩] 96)).drew
  go_region_with (go_at_call 76; refine (unhide HR _).mono ?_; rintro e w1 ⟨rfl, hb1⟩; have hv3 := unhide HV w1 (((Below.refl _ _).alloc (Nat.le_refl _) _).drew.trans (hb1.mono (by simp))); obtain ⟨q1, q2, q3, q4⟩ := box2 hb1)
  all_goals
    have hpg : sz ++ rb = strOf (pageL zs) := by rw [← unhide HSZ, ← unhide HRB]; exact page_str zs _
    have hb2 : Below w.heap.size w w1 := ((Below.refl _ _).alloc (Nat.le_refl _) _).drew.trans (hb1.mono (by simp))
    have HPG := hide hpg
    have HB2 := hide hb2
    clear hpg hb2 hb1 hv1 hv2 hv3
    go_wp2
    refine bodyPost_ret (v := .agg #[.int .i64 2, .string (sz ++ rb)]) (by simp [results, Tryz.results53, go_sem, q1, q2]) rfl ⟨by rw [unhide HPG], ?_⟩
    exact (((unhide HB2).setCell (Nat.le_refl _) _).setCell (Nat.le_refl _) _)
end Go.Proofs.YtiijbklaapaheaaGreat
