/- Contracts of Check, and of the document's own Check. -/
import Derived.Test.YthdghnppledakaaW4
namespace Go.Proofs.Ythdghnppledakaa
open Go.RowKit

/-- One step of the check. -/
def fstep (h x : Int) : Int := IntKind.u64.wrap (bits .xor .u64 h x * 1099511628211)
/-- The check of bytes, from h on. -/
def chkF : Int → List Int → Int
  | h, [] => h
  | h, x :: r => chkF (fstep h x) r
theorem chkF_append (h : Int) (a b : List Int) : chkF h (a ++ b) = chkF (chkF h a) b := by
  induction a generalizing h with
  | nil => rfl
  | cons x r ih => exact ih _
theorem chkF_snoc (h : Int) (l : List Int) (k : Nat) (hk : k < l.length) : chkF h (l.take (k + 1)) = fstep (chkF h (l.take k)) (l.getD k 0) := by
  rw [take_snoc l k hk, chkF_append]; rfl
theorem fstep_bounds (h x : Int) : 0 ≤ fstep h x ∧ fstep h x ≤ 18446744073709551615 := by
  unfold fstep; rw [IntKind.wrap_u64]; omega
theorem chkF_bounds (h : Int) (l : List Int) (h0 : 0 ≤ h) (h1 : h ≤ 18446744073709551615) : 0 ≤ chkF h l ∧ chkF h l ≤ 18446744073709551615 := by
  induction l generalizing h with
  | nil => exact ⟨h0, h1⟩
  | cons x r ih => exact ih _ (fstep_bounds h x).1 (fstep_bounds h x).2
/-- Where the check begins. -/
def c0 : Int := 14695981039346656037
theorem c0_bounds : 0 ≤ c0 ∧ c0 ≤ 18446744073709551615 := by unfold c0; omega

set_option maxHeartbeats 800000 in
theorem refCheck_any (bv : Value) (zs : List Int) (w : World) (hs : Sees w .u8 bv zs) (hby : Byt zs) (hm : zs.length ≤ 140737488355328) :
    Calls Try.prog 28 #[bv] w fun e w' => e = .returned (.int .u64 (chkF c0 zs)) ∧ w = w' := by
  obtain ⟨ao, cap, rfl, hlc, hnil, hc⟩ := hs
  go_enter Try.func28, Try.ntmps28
  go_wp2
  go_loop [3, 4] (fun h i => ∃ k : Nat, k ≤ zs.length ∧ i = .int .i64 k ∧ h = .int .u64 (chkF c0 (zs.take k))) (fun _ i => zs.length - (intOf i).toNat)
  case atStart => exact ⟨0, Nat.zero_le _, rfl, rfl⟩
  case round =>
    obtain ⟨k, hk, rfl, rfl⟩ := hrel
    by_cases hlt : k < zs.length
    · cases ao with
      | none => have := hnil rfl; omega
      | some a =>
        have hcj := hc a rfl k hlt
        obtain ⟨hg1, hg2⟩ := hby.get k
        have hst := hide (chkF_snoc c0 zs k hlt)
        obtain ⟨hb1, hb2⟩ := chkF_bounds c0 (zs.take k) c0_bounds.1 c0_bounds.2
        clear hc hnil
        generalize zs.getD k 0 = x at *
        generalize hh : chkF c0 (zs.take k) = h at *
        have HH := hide hh
        clear hh
        go_wp2
        go_round
        case rel => exact ⟨k + 1, by omega, by go_num, by rw [hst.out]; rfl⟩
        case measure => simp [intOf]; omega
    · go_wp2
      go_ret
      exact ⟨ret_int (by rw [List.take_of_length_le (by omega)]), rfl⟩

/-- A list of lists of bytes: the slices vs lie under lv, and each of them shows its bytes. -/
def SeesV (w : World) (lv : Value) (vs : List Value) (ls : List (List Int)) : Prop :=
  (∃ ao cap, lv = .slice ao vs.length cap ∧ vs.length ≤ cap ∧ (ao = none → cap = 0) ∧ ∀ a, ao = some a → ∀ t, t < vs.length → w.cell? (a.add t) = some (vs.getD t .nilIface)) ∧
  ls.length = vs.length ∧ ∀ t, t < vs.length → Sees w .u8 (vs.getD t .nilIface) (ls.getD t []) ∧ Byt (ls.getD t []) ∧ (ls.getD t []).length ≤ 140737488355328

theorem SeesV.below {w w' : World} {lv : Value} {vs : List Value} {ls : List (List Int)} (h : SeesV w lv vs ls) (hb : Below w.heap.size w w') : SeesV w' lv vs ls := by
  obtain ⟨⟨ao, cap, hv, hl, hn, ha⟩, h2, h3⟩ := h
  exact ⟨⟨ao, cap, hv, hl, hn, fun a e t ht => (hb.cell (World.block_lt_of_cell? w _ (ha a e t ht))).trans (ha a e t ht)⟩, h2, fun t ht => ⟨(h3 t ht).1.below hb, (h3 t ht).2⟩⟩

theorem flat_snoc (ls : List (List Int)) (k : Nat) (h : k < ls.length) : (ls.take (k + 1)).flatten = (ls.take k).flatten ++ ls.getD k [] := by
  rw [List.take_succ_eq_append_getElem h, List.flatten_append]
  simp only [List.flatten_cons, List.flatten_nil, List.append_nil]
  congr 1
  simp [List.getD, h]

set_option maxHeartbeats 1000000 in
/-- Check. -/
theorem check_any (lv : Value) (vs : List Value) (ls : List (List Int)) (w : World) (hs : SeesV w lv vs ls) (hm : vs.length ≤ 140737488355328) :
    Calls Try.prog 27 #[lv] w fun e w' => e = .returned (.int .u64 (chkF c0 ls.flatten)) ∧ w = w' := by
  obtain ⟨⟨ao, cap, rfl, hlc, hnil, hc⟩, hls, hall⟩ := hs
  have HLS := hide hls
  clear hls
  go_enter Try.func27, Try.ntmps27
  go_wp2
  go_loop [3, 10] (fun h i => ∃ k : Nat, k ≤ vs.length ∧ i = .int .i64 k ∧ h = .int .u64 (chkF c0 (ls.take k).flatten)) (fun _ i => vs.length - (intOf i).toNat)
  case atStart => exact ⟨0, Nat.zero_le _, rfl, rfl⟩
  case round =>
    obtain ⟨k, hk, rfl, rfl⟩ := hrel
    by_cases hlt : k < vs.length
    · cases ao with
      | none => have := hnil rfl; omega
      | some a =>
        have hcj := hc a rfl k hlt
        obtain ⟨hsv, hbv, hlv⟩ := hall k hlt
        have hfl := flat_snoc ls k (by rw [HLS.out]; exact hlt)
        have hst := chkF_append c0 (ls.take k).flatten (ls.getD k [])
        rw [← hfl] at hst
        obtain ⟨hb1, hb2⟩ := chkF_bounds c0 (ls.take k).flatten c0_bounds.1 c0_bounds.2
        clear hc hnil hall hfl
        generalize ls.getD k [] = zs at *
        generalize vs.getD k .nilIface = v at *
        generalize chkF c0 (ls.take k).flatten = h at *
        obtain ⟨ao2, cap2, rfl, hlc2, hnil2, hc2⟩ := hsv
        have HST := hide hst
        clear hst
        go_wp2
        go_loop [3, 16] (fun h' i => ∃ j : Nat, j ≤ zs.length ∧ i = .int .i64 j ∧ h' = .int .u64 (chkF h (zs.take j))) (fun _ i => zs.length - (intOf i).toNat)
        case atStart => exact ⟨0, Nat.zero_le _, rfl, rfl⟩
        case round =>
          obtain ⟨j, hj, rfl, rfl⟩ := hrel
          by_cases hlt2 : j < zs.length
          · cases ao2 with
            | none => have := hnil2 rfl; omega
            | some a2 =>
              have hcj2 := hc2 a2 rfl j hlt2
              obtain ⟨hg1, hg2⟩ := hbv.get j
              have hst2 := hide (chkF_snoc h zs j hlt2)
              obtain ⟨hd1, hd2⟩ := chkF_bounds h (zs.take j) hb1 hb2
              clear hc2 hnil2
              generalize zs.getD j 0 = x at *
              generalize hh : chkF h (zs.take j) = h' at *
              have HH := hide hh
              clear hh
              go_wp2
              go_round
              case rel => exact ⟨j + 1, by omega, by go_num, by rw [hst2.out]; rfl⟩
              case measure => simp [intOf]; omega
          · obtain rfl : j = zs.length := by omega
            rw [List.take_length]
            go_wp2
            go_round
            case rel => exact ⟨k + 1, by omega, by go_num, by rw [HST.out]⟩
            case measure => simp [intOf]; omega
    · go_wp2
      go_ret
      exact ⟨ret_int (by rw [List.take_of_length_le (by rw [HLS.out]; omega)]), rfl⟩

/-- A list of one list. -/
theorem seesV_one (w : World) (v : Value) (zs : List Int) (hs : Sees w .u8 v zs) (hb : Byt zs) (hm : zs.length ≤ 140737488355328) : SeesV (w.alloc (.cells #[v] 22)) (.slice (some ⟨w.heap.size, 0, none⟩) 1 1) [v] [zs] := by
  refine ⟨⟨_, 1, rfl, Nat.le_refl _, (fun h => by cases h), fun a h t ht => ?_⟩, rfl, fun t ht => ?_⟩
  · obtain rfl := Option.some.inj h
    obtain rfl : t = 0 := by simp at ht; omega
    exact cell_of_one (heap_alloc_new w _)
  · obtain rfl : t = 0 := by simp at ht; omega
    exact ⟨hs.below ((Below.refl _ _).alloc (Nat.le_refl _) _), hb, hm⟩

theorem check_one (w : World) (v : Value) (zs : List Int) (hs : Sees w .u8 v zs) (hb : Byt zs) (hm : zs.length ≤ 140737488355328) :
    Calls Try.prog 27 #[.slice (some ⟨w.heap.size, 0, none⟩) 1 1] (w.alloc (.cells #[v] 22)) fun e w' => e = .returned (.int .u64 (chkF c0 zs)) ∧ w.alloc (.cells #[v] 22) = w' := by
  have := check_any _ [v] [zs] _ (seesV_one w v zs hs hb hm) (by simp)
  simpa using this

end Go.Proofs.Ythdghnppledakaa
