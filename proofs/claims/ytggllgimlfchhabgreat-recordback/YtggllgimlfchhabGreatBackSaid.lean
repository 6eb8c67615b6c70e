/- RecordBack answers true for every entry, message and bytes, and leaves them as they are: what is written is read as it was, and what is read is written as it stood. -/
import Derived.Test.YtggllgimlfchhabGreatKS
import Derived.Test.YtggllgimlfchhabGreatGD0
import Derived.Test.YtggllgimlfchhabGreatGD1
import Derived.Test.YtggllgimlfchhabGreatGD2
import Derived.Test.YtggllgimlfchhabGreatGD3
import Derived.Carry
namespace Go.Proofs.YtggllgimlfchhabGreat
open Go.ChangeShapes Go.WideShapes Go.ChangeAt Go.RowKit
set_option maxRecDepth 100000

theorem mar_cases (m : MsgD) : marE m = 0 ∨ marE m = 3 ∨ marE m = 40 := by
  unfold marE
  split
  · split
    · exact .inr (.inl rfl)
    · exact .inl rfl
  · exact .inr (.inr rfl)
theorem recordBack_walk {w : World} {ce cm : Array Value} {ba : Option Addr} {bl bc : Nat} {x : EntD} {m : MsgD} {zs : List Int} (se : SeesE w ce x) (fe : FitE x) (sm : SeesM w cm m) (om : OkM m) (fm : Fits m) (hs : Sees w .u8 (.slice ba bl bc) zs) (hby : Byt zs) (hl : zs.length ≤ 140737488351232) :
    Calls Tryz.prog 3 #[.agg ce, .agg cm, .slice ba bl bc] w fun e w' => e = .returned (.bool true) ∧ Below w.heap.size w w' := by
  obtain ⟨y, ey, hy⟩ : ∃ a b, takeE zs = (a, b) := ⟨_, _, rfl⟩
  obtain ⟨n, en, hn⟩ : ∃ a b, unm zs = (a, b) := ⟨_, _, rfl⟩
  have hy2 : (takeE zs).2 = ey := by rw [hy]
  have hn2 : (unm zs).2 = en := by rw [hn]
  cases ha : mayE x with
  | true =>
    rcases mar_cases m with hb | hb | hb <;> by_cases hc : ey = 0 <;> by_cases hd : en = 0
    · exact back_1011 se fe sm om fm hs hby hl ha hb (by rw [hy, hc]) (by rw [hn, hd])
    · exact back_1010 se fe sm om fm hs hby hl ha hb (by rw [hy, hc]) (by rw [hn2]; exact hd)
    · exact back_1001 se fe sm om fm hs hby hl ha hb (by rw [hy2]; exact hc) (by rw [hn, hd])
    · exact back_1000 se fe sm om fm hs hby hl ha hb (by rw [hy2]; exact hc) (by rw [hn2]; exact hd)
    · exact back_1311 se fe sm om fm hs hby hl ha hb (by rw [hy, hc]) (by rw [hn, hd])
    · exact back_1310 se fe sm om fm hs hby hl ha hb (by rw [hy, hc]) (by rw [hn2]; exact hd)
    · exact back_1301 se fe sm om fm hs hby hl ha hb (by rw [hy2]; exact hc) (by rw [hn, hd])
    · exact back_1300 se fe sm om fm hs hby hl ha hb (by rw [hy2]; exact hc) (by rw [hn2]; exact hd)
    · exact back_1411 se fe sm om fm hs hby hl ha hb (by rw [hy, hc]) (by rw [hn, hd])
    · exact back_1410 se fe sm om fm hs hby hl ha hb (by rw [hy, hc]) (by rw [hn2]; exact hd)
    · exact back_1401 se fe sm om fm hs hby hl ha hb (by rw [hy2]; exact hc) (by rw [hn, hd])
    · exact back_1400 se fe sm om fm hs hby hl ha hb (by rw [hy2]; exact hc) (by rw [hn2]; exact hd)
  | false =>
    rcases mar_cases m with hb | hb | hb <;> by_cases hc : ey = 0 <;> by_cases hd : en = 0
    · exact back_0011 se fe sm om fm hs hby hl ha hb (by rw [hy, hc]) (by rw [hn, hd])
    · exact back_0010 se fe sm om fm hs hby hl ha hb (by rw [hy, hc]) (by rw [hn2]; exact hd)
    · exact back_0001 se fe sm om fm hs hby hl ha hb (by rw [hy2]; exact hc) (by rw [hn, hd])
    · exact back_0000 se fe sm om fm hs hby hl ha hb (by rw [hy2]; exact hc) (by rw [hn2]; exact hd)
    · exact back_0311 se fe sm om fm hs hby hl ha hb (by rw [hy, hc]) (by rw [hn, hd])
    · exact back_0310 se fe sm om fm hs hby hl ha hb (by rw [hy, hc]) (by rw [hn2]; exact hd)
    · exact back_0301 se fe sm om fm hs hby hl ha hb (by rw [hy2]; exact hc) (by rw [hn, hd])
    · exact back_0300 se fe sm om fm hs hby hl ha hb (by rw [hy2]; exact hc) (by rw [hn2]; exact hd)
    · exact back_0411 se fe sm om fm hs hby hl ha hb (by rw [hy, hc]) (by rw [hn, hd])
    · exact back_0410 se fe sm om fm hs hby hl ha hb (by rw [hy, hc]) (by rw [hn2]; exact hd)
    · exact back_0401 se fe sm om fm hs hby hl ha hb (by rw [hy2]; exact hc) (by rw [hn, hd])
    · exact back_0400 se fe sm om fm hs hby hl ha hb (by rw [hy2]; exact hc) (by rw [hn2]; exact hd)

theorem recordBack_contract (H : Type) (enc : TypeId × Value → H) (W : World) (base : Nat) (args : Array Value) (ds gs : List (DataW H)) (before : List MemPlace)
    (hval : ∀ (j : Nat) t v, Tryz.f3.params[j]? = some t → args[j]? = some v → Value.okWide Tryz.prog W .any base t v)
    (hW : DataW.Whole enc Tryz.prog Tryz.f3.params.toList Rows.recordBackSpec.vars false W args.toList ds gs before) (hsz : (DataW.weightsEach Tryz.prog (Tryz.f3.params.toList ++ Rows.recordBackSpec.plain.varTypes Tryz.prog) (ds ++ gs)).all (· ≤ reachBytes) = true) :
    Calls Tryz.prog 3 args W fun e W' => ∃ v, e = .returned v ∧ Rows.recordBackSpec.post enc Tryz.prog Tryz.f3 false true false false W args v W' := by
  have hW' := hW
  obtain ⟨p, q, hA0, hV, rfl, _, _⟩ := hW
  have hA : DataW.TrodAll enc Tryz.prog W 0 (fun _ => true) true Tryz.f3.params.toList args.toList ds p := hA0
  rw [Tryz.params3] at hA hval hsz
  obtain ⟨v0, v1, v2, d0, d1, d2, p0, p1, p2, hargs, rfl, rfl, h0, h1, h2⟩ := trodAll_three hA
  obtain rfl : args = #[v0, v1, v2] := by cases args; simp_all
  obtain ⟨rfl, rfl⟩ := trodVars_none hV
  obtain ⟨a2, len2, cap2, rfl⟩ := okWide_slice Tryz.underlying26 (hval 2 26 v2 rfl rfl)
  have k0 := h0
  have lt0 : ∀ x ∈ p0, x.block < W.heap.size := by obtain ⟨m, hm⟩ := k0; exact DataW.trod_lt m _ _ _ hm
  have k1 := h1
  have lt1 : ∀ x ∈ p1, x.block < W.heap.size := by obtain ⟨m, hm⟩ := k1; exact DataW.trod_lt m _ _ _ hm
  have k2 := h2
  have lt2 : ∀ x ∈ p2, x.block < W.heap.size := by obtain ⟨m, hm⟩ := k2; exact DataW.trod_lt m _ _ _ hm
  obtain ⟨ce, x, rfl, se, fe⟩ := view_entry (hval 0 24 v0 rfl rfl) h0
  obtain ⟨cm, m, rfl, sm, om, fm, b0, b1, b2⟩ := view_msgF (hval 1 30 v1 rfl rfl) h1
  obtain ⟨f2, hf2⟩ := h2
  obtain ⟨z2, hl2, hs2, hb2, hd2⟩ := view_bytesD hf2
  have hu2 : len2 ≤ 140737488351232 := len_sized hsz (j := 2) rfl rfl hd2
  clear hA0
  refine (recordBack_walk se fe sm om ⟨fm, b0, b1, b2⟩ hs2 hb2 (by omega)).mono fun e W' ⟨he, bel⟩ => ?_
  subst he
  exact ⟨_, rfl, _, _, _, [], _, [], hW', trodAll_mk1 (shut_bool Tryz.underlying4 _), (trodAll_mk3 (Below.trod laidOut (by kernel_rfl) (of_decide_eq_true (by kernel_rfl)) k0 bel lt0) (Below.trod laidOut (by kernel_rfl) (of_decide_eq_true (by kernel_rfl)) k1 bel lt1) (Below.trod laidOut (by kernel_rfl) (of_decide_eq_true (by kernel_rfl)) k2 bel lt2)), rfl, bel.frame _, fun h => by cases h⟩

set_option maxRecDepth 100000 in
theorem recordBackSaid_lifted (os : Os) (started : os.Started) (H : Type) (enc : TypeId × Value → H) :
    ReturnsInHanded {} Tryz.checked os 3 .any (Rows.recordBackSpec.pre6 enc Tryz.prog Tryz.f3 Rows.recordBackRow.domain false) (Rows.recordBackSpec.post enc Tryz.prog Tryz.f3 false true false false) := by
  refine returnsInHanded_of_change_sized (C := Tryz.checked) ownK started (by kernel_rfl) Tryz.func3
    (ChangeSpec.witness6 (enc := enc) (C := Tryz.checked) false ⟨#[], #[.agg #[.int .i64 0, .int .i64 0, .int .i64 0, .slice none 0 0], .agg #[.int .i64 0, .int .i64 0, .int .i64 0, .int .i64 0, .int .i64 0, .int .i64 0, .int .i64 0, .bool false, .slice none 0 0, .int .i64 0, .int .i64 0, .int .i64 0, .slice none 0 0, .int .i64 0, .int .i64 0, .int .i64 0, .slice none 0 0], .slice none 0 0], []⟩ 8 (by kernel_rfl) (by kernel_rfl) (by kernel_rfl) (by kernel_rfl)) ?_
  intro W base args ds gs before hval hW _ hsz _
  exact recordBack_contract H enc W base args ds gs before hval hW hsz

theorem recordBackSaid_over : Rows.recordBackRow.holds Tryz.pinned (OpenSpec.ofChange Rows.recordBackSpec) :=
  OpenClaim.holds_of_wide 3 Tryz.f3 rfl rfl rfl rfl rfl rfl rfl ⟨rfl, rfl, rfl, rfl, rfl⟩ rfl rfl rfl rfl rfl (by kernel_rfl) Tryz.func3 (by kernel_rfl)
    (of_decide_eq_true (by kernel_rfl)) (by unfold Func.isWrapper; first | (rw [if_pos (by decide +kernel)]; kernel_rfl) | (rw [if_neg (by decide +kernel)]; exact ⟨rfl, rfl⟩))
    (fun os started H enc _ => recordBackSaid_lifted os started H enc)

theorem recordBackSaid_holds : Rows.RecordBackSaid := recordBackSaid_over

end Go.Proofs.YtggllgimlfchhabGreat
