/- The partitions that have a key. -/
import Derived.Test.YtibjhjkeflbghaaN0
import Derived.Deep.MidRow
namespace Go.Proofs.Ytibjhjkeflbghaa
open Go.RowKit
set_option maxRecDepth 100000

theorem index29 {A : List Value} (h : A.length = 8) {p : Nat} (hp : p < 8) {a : Option Addr} {n c : Nat} (hv : A[p]? = some (.slice a n c)) (z : World) : (Instr.index 29 (.agg A.toArray) (.int .i64 p)).run Try.prog z = .ok (.slice a n c) z := by
  obtain ⟨a0, a1, a2, a3, a4, a5, a6, a7, rfl⟩ := list8 h
  rcases (by omega : p = 0 ∨ p = 1 ∨ p = 2 ∨ p = 3 ∨ p = 4 ∨ p = 5 ∨ p = 6 ∨ p = 7) with rfl | rfl | rfl | rfl | rfl | rfl | rfl | rfl <;> (simp at hv; subst hv; rfl)
def numR (g : Nat → Int) : List Value := (List.range 8).map fun p => .int .i64 (g p)
theorem numR_len (g : Nat → Int) : (numR g).length = 8 := by simp [numR]
theorem numR_at (g : Nat → Int) {p : Nat} (hp : p < 8) : (numR g)[p]? = some (.int .i64 (g p)) := by simp [numR, hp]
theorem numR_set (g : Nat → Int) (p : Nat) (v : Int) : (numR g).toArray.setIfInBounds p (.int .i64 v) = (numR fun q => if q = p then v else g q).toArray := by
  refine Array.ext_getElem? fun i => ?_
  rw [Array.getElem?_setIfInBounds]
  simp only [List.size_toArray, List.getElem?_toArray, numR_len]
  by_cases hi : i < 8
  · rw [numR_at _ hi, numR_at _ hi]
    by_cases c : p = i
    · subst c; simp [hi]
    · rw [if_neg c, if_neg (Ne.symm c)]
  · have h1 : (numR g)[i]? = none := List.getElem?_eq_none (by rw [numR_len]; omega)
    have h2 : (numR fun q => if q = p then v else g q)[i]? = none := List.getElem?_eq_none (by rw [numR_len]; omega)
    rw [h1, h2]
    by_cases c : p = i
    · subst c; simp [hi]
    · rw [if_neg c]
theorem index92 (g : Nat → Int) {p : Nat} (hp : p < 8) (z : World) : (Instr.index 92 (.agg (numR g).toArray) (.int .i64 p)).run Try.prog z = .ok (.int .i64 (g p)) z := by
  have e : numR g = [.int .i64 (g 0), .int .i64 (g 1), .int .i64 (g 2), .int .i64 (g 3), .int .i64 (g 4), .int .i64 (g 5), .int .i64 (g 6), .int .i64 (g 7)] := rfl
  rw [e]
  rcases (by omega : p = 0 ∨ p = 1 ∨ p = 2 ∨ p = 3 ∨ p = 4 ∨ p = 5 ∨ p = 6 ∨ p = 7) with rfl | rfl | rfl | rfl | rfl | rfl | rfl | rfl <;> rfl
theorem Try.info92 : (Try.prog.info? 92).map (·.size) = some 8 := by kernel_rfl
/-- How many keys each partition has in the first of them. -/
def cnt (len : Nat → Nat → Nat) : Nat → Nat → Int
  | 0, _ => 0
  | i + 1, p => cnt len i p + len i p
theorem cnt_le {len : Nat → Nat → Nat} {k : Nat} (h : ∀ i p, i < k → p < 8 → len i p ≤ 8796093022208) : ∀ i p, i ≤ k → p < 8 → 0 ≤ cnt len i p ∧ cnt len i p ≤ 8796093022208 * i := fun i p => by
  induction i with
  | zero => intro _ _; simp [cnt]
  | succ i ih =>
    intro h1 h2
    have := ih (by omega) h2
    have := h i p (by omega) h2
    unfold cnt
    omega
/-- The places at which something is. -/
def hv (c : Nat → Int) (p : Nat) : List Int := ((List.range p).filter fun q : Nat => decide (0 < c q)).map fun q : Nat => (q : Int)
theorem hv_succ (c : Nat → Int) (p : Nat) : hv c (p + 1) = if 0 < c p then hv c p ++ [(p : Int)] else hv c p := by
  unfold hv
  rw [List.range_succ, List.filter_append, List.map_append]
  by_cases h : 0 < c p <;> simp [h]
theorem hv_len (c : Nat → Int) (p : Nat) : (hv c p).length ≤ p := by
  unfold hv
  rw [List.length_map]
  exact Nat.le_trans (List.length_filter_le _ _) (by simp)

set_option maxHeartbeats 1600000 in
theorem having_any {w : World} {g k : Nat} {R : Nat → List Value} {len : Nat → Nat → Nat} (hk : k ≤ 2) (hr : ∀ i, i < k → w.rangeAt g (i * 8) (R i)) (h8 : ∀ i, i < k → (R i).length = 8) (_hg : g < w.heap.size)
    (hs : ∀ i p, i < k → p < 8 → ∃ a c, (R i)[p]? = some (.slice a (len i p) c)) (hl : ∀ i p, i < k → p < 8 → len i p ≤ 8796093022208) :
    Calls Try.prog 37 #[.slice (some ⟨g, 0, none⟩) k k] w fun e w' => ∃ r, e = .returned r ∧ w'.ownsRow w.heap.size 3 1 r (hv (cnt len k) 8).length ((hv (cnt len k) 8).flatMap nC) ∧ Below w.heap.size w w' := by
  obtain ⟨Y, hY⟩ : ∃ y, w.alloc (.cells (numR fun _ => 0).toArray 92) = y := ⟨_, rfl⟩
  have bY : Below w.heap.size w Y := hY ▸ below_box _
  have xY : Y.heap[w.heap.size]? = some (.cells (numR fun _ => 0).toArray 92) := by rw [← hY]; exact heap_alloc_new w _
  have HR : Hid (∀ z, Below w.heap.size w z → ∀ i, i < k → z.rangeAt g (i * 8) (R i)) := fun z hz i hi j v hv => by
    have := hr i hi j v hv
    exact (hz.cell (World.block_lt_of_cell? w _ this)).trans this
  have H8 := hide h8
  have HS := hide hs
  have HL := hide hl
  have HXY := hide (And.intro xY bY)
  clear hr h8 hs hl bY xY
  go_enter Try.func37, Try.ntmps37
  go_wp2_with (rw [show w.alloc (.cells #[.int .i64 0, .int .i64 0, .int .i64 0, .int .i64 0, .int .i64 0, .int .i64 0, .int .i64 0, .int .i64 0] 92) = Y from hY])
  go_loopw [13] (fun c wr => ∃ i : Nat, i ≤ k ∧ c = .int .i64 i ∧ wr.heap[w.heap.size]? = some (.cells (numR (cnt len i)).toArray 92) ∧ Below w.heap.size w wr) (fun c _ => k - (intOf c).toNat)
  case atStart => exact ⟨0, by omega, rfl, (unhide HXY).1, (unhide HXY).2⟩
  case round =>
    obtain ⟨i, hi, rfl, hxr, hbr⟩ := hrel
    by_cases hlt : i < k
    · obtain ⟨Z, hZ⟩ : ∃ y, wr.alloc (.cells nil8 29) = y := ⟨_, rfl⟩
      have bZ : Below wr.heap.size wr Z := hZ ▸ below_box _
      have xZ : Z.heap[wr.heap.size]? = some (.cells nil8 29) := by rw [← hZ]; exact heap_alloc_new wr _
      obtain ⟨Z2, hZ2⟩ : ∃ y, Z.setRow wr.heap.size (R i).toArray = y := ⟨_, rfl⟩
      have x2 : Z2.heap[wr.heap.size]? = some (.cells (R i).toArray 29) := by rw [← hZ2, setRow_heap Z wr.heap.size _ _ 29 (0, 0) xZ]
      have b2 : Below wr.heap.size wr Z2 := hZ2 ▸ below_setRow bZ (Nat.le_refl _)
      have hrr := unhide HR wr hbr i hlt
      have hR8 := unhide H8 i hlt
      have h29 : (Try.prog.info? 29).map (·.size) = some (R i).length := by rw [hR8]; exact Try.info29
      have h29' : (Try.prog.info? 29).map (·.size) = some (R i).toArray.size := by rw [List.size_toArray]; exact h29
      have hns : nil8.size = (R i).toArray.size := by show 8 = _; rw [List.size_toArray, hR8]
      have hone : (R i).toArray.all (·.oneCell') = true := by
        rw [List.all_toArray, List.all_eq_true]
        intro u hu
        obtain ⟨p, hp⟩ := List.getElem?_of_mem hu
        have hp8 : p < 8 := by rw [← hR8]; exact (List.getElem?_eq_some_iff.1 hp).1
        obtain ⟨a, c, e⟩ := unhide HS i p hlt hp8
        rw [e] at hp
        obtain rfl := Option.some.inj hp
        rfl
      have hxr2 : Z2.heap[w.heap.size]? = some (.cells (numR (cnt len i)).toArray 92) := (b2.block _ (Array.getElem?_eq_some_iff.1 hxr).1).trans hxr
      have hbr2 : Below w.heap.size w Z2 := hbr.trans (b2.mono hbr.size)
      have HF := hide (And.intro hrr (And.intro h29 (And.intro xZ (And.intro h29' (And.intro hns (And.intro hone (And.intro x2 (And.intro hxr2 hbr2))))))))
      have HRR := hide (And.intro hxr hbr)
      clear hrr h29 xZ h29' hns hone x2 hxr2 hbr2 hxr hbr bZ b2 hR8
      have HZ2 := hide hZ2
      clear hZ2
      go_wp2_with (first | rw [show wr.alloc (.cells #[.slice none 0 0, .slice none 0 0, .slice none 0 0, .slice none 0 0, .slice none 0 0, .slice none 0 0, .slice none 0 0, .slice none 0 0] 29) = Z from hZ] | (refine wpList_load_mid rfl 29 _ rfl g (i * 8) rfl (R i) _ (unhide HF).1 Try.underlying29 rfl (unhide HF).2.1 ?_) | (refine wpList_store_row rfl 29 _ _ rfl wr.heap.size nil8 (R i).toArray rfl rfl 29 (unhide HF).2.2.1 (unhide HF).2.2.2.1 (unhide HF).2.2.2.2.1 (unhide HF).2.2.2.2.2.1 ?_; rw [unhide HZ2]) | (refine wpList_load_row rfl 29 _ rfl wr.heap.size rfl 29 (R i).toArray (0, 0) _ (unhide HF).2.2.2.2.2.2.1 Try.underlying29 rfl (unhide HF).2.2.2.1 ?_))
      have HAT := hide (And.intro (unhide HF).2.2.2.2.2.2.2.1 (unhide HF).2.2.2.2.2.2.2.2)
      clear HF HRR
      go_loopw [18] (fun c wr => ∃ p : Nat, p ≤ 8 ∧ c = .int .i64 p ∧ wr.heap[w.heap.size]? = some (.cells (numR fun q => if q < p then cnt len (i + 1) q else cnt len i q).toArray 92) ∧ Below w.heap.size w wr) (fun c _ => 8 - (intOf c).toNat)
      case atStart => exact ⟨0, by omega, rfl, by simpa using (unhide HAT).1, (unhide HAT).2⟩
      case round =>
        obtain ⟨p, hp, rfl, hxq, hbq⟩ := hrel
        by_cases hlp : p < 8
        · obtain ⟨a, c, hac⟩ := unhide HS i p hlt hlp
          have hix := index29 (unhide H8 i hlt) hlp hac
          have hle := unhide HL i p hlt hlp
          have hcb := cnt_le (k := k) (fun i' p' h1 h2 => unhide HL i' p' h1 h2) i p (by omega) hlp
          obtain ⟨N, hN⟩ : ∃ n, len i p = n := ⟨_, rfl⟩
          obtain ⟨C, hC⟩ : ∃ n, cnt len i p = n := ⟨_, rfl⟩
          rw [hN] at hix hle
          rw [hC] at hcb
          have hcell : wr.cell? ⟨w.heap.size, p, none⟩ = some (.int .i64 C) := by
            rw [cell_at hxq]
            simp only [List.getElem?_toArray, numR_at _ hlp]
            rw [if_neg (Nat.lt_irrefl p), hC]
          have hfz : wr.frozen? ⟨w.heap.size, p, none⟩ = false := frozen_of_heap hxq
          have hw : wrap64 (C + (N : Int)) = C + N := by unfold wrap64; omega
          obtain ⟨y, hy⟩ : ∃ y, wr.setCell ⟨w.heap.size, p, none⟩ (.int .i64 (C + N)) = y := ⟨_, rfl⟩
          have hxy : y.heap[w.heap.size]? = some (.cells (numR fun q => if q < p + 1 then cnt len (i + 1) q else cnt len i q).toArray 92) := by
            rw [← hy, heap_setCell_same wr _ _ _ _ _ hxq, numR_set]
            congr 4
            funext q
            by_cases h1 : q = p
            · subst h1
              rw [if_pos rfl, if_pos (by omega)]
              unfold cnt
              rw [hC, hN]
            · rw [if_neg h1]
              by_cases h2 : q < p
              · rw [if_pos h2, if_pos (by omega)]
              · rw [if_neg h2, if_neg (by omega)]
          have hby : Below w.heap.size w y := hy ▸ hbq.setCell (Nat.le_refl _) _
          have HG := hide (And.intro hxy hby)
          have HY := hide hy
          clear hxq hbq hac hle hcb hN hC hxy hby hy
          go_wp2_with (rw [unhide HY])
          go_roundw
          case rel => exact ⟨p + 1, by omega, by go_num, (unhide HG).1, (unhide HG).2⟩
          case measure => simp [intOf]; omega
        · obtain rfl : p = 8 := by omega
          have hx8 : wr.heap[w.heap.size]? = some (.cells (numR (cnt len (i + 1))).toArray 92) := by
            have e : (numR fun q => if q < 8 then cnt len (i + 1) q else cnt len i q) = numR (cnt len (i + 1)) := by
              unfold numR
              refine List.map_congr_left fun q hq => ?_
              simp only [if_pos (List.mem_range.1 hq)]
            rw [hxq, e]
          have HG := hide (And.intro hx8 hbq)
          clear hxq hbq hx8
          go_wp2
          go_roundw
          case rel => exact ⟨i + 1, by omega, by go_num, (unhide HG).1, (unhide HG).2⟩
          case measure => simp [intOf]; omega
    · obtain rfl : i = k := by omega
      have HW := hide (And.intro hxr hbr)
      obtain ⟨wL, hwL⟩ : ∃ z, z = wr := ⟨_, rfl⟩
      subst hwL
      have h92 : (Try.prog.info? 92).map (·.size) = some (numR (cnt len i)).toArray.size := by rw [List.size_toArray, numR_len]; exact Try.info92
      obtain ⟨cc, hcc⟩ : ∃ c, cnt len i = c := ⟨_, rfl⟩
      rw [hcc] at HW h92
      have H92 := hide h92
      have HCC := hide hcc
      clear hxr hbr h92 hcc
      go_wp2_with (refine wpList_load_row rfl 92 _ rfl w.heap.size rfl 92 (numR cc).toArray (0, 0) _ (unhide HW).1 Try.underlying92 rfl (unhide H92) ?_)
      go_loopw [8, 32] (fun o c wr => ∃ p : Nat, p ≤ 8 ∧ c = .int .i64 p ∧ wr.ownsRow wL.heap.size 3 1 o (hv cc p).length ((hv cc p).flatMap nC) ∧ Below wL.heap.size wL wr) (fun _ c _ => 8 - (intOf c).toNat)
      case atStart => exact ⟨0, by omega, rfl, own_nil _ _ _ _, Below.refl _ _⟩
      case round =>
        obtain ⟨p, hp, rfl, hor, hbr⟩ := hrel
        have HO := hide hor
        have HB := hide hbr
        obtain ⟨av, cv, hov⟩ := own_shape hor
        have hlen := hv_len cc p
        obtain ⟨m, hm⟩ : ∃ m, (hv cc p).length = m := ⟨_, rfl⟩
        by_cases hlp : p < 8
        · have hix := index92 cc hlp
          obtain ⟨C, hC⟩ : ∃ n, cc p = n := ⟨_, rfl⟩
          rw [hC] at hix
          by_cases hpos : 0 < C
          · obtain ⟨v', y5, r5, o5, g5⟩ := append_ints 30 (own_below (own_mono hor (Nat.le_refl _)) ((below_box (w := wr) (.cells #[.int .i64 p] 3)).mono (Nat.le_refl _))) (sees_oneN wr (p : Int)) (by simp only [List.length_cons, List.length_nil]; omega) (Nat.le_trans hbr.size (by simp))
            have hb5 : Below wL.heap.size wL y5 := (hbr.trans ((below_box (w := wr) (.cells #[.int .i64 p] 3)).mono hbr.size)).trans ((Below.refl _ _).grown g5 (Nat.le_trans hbr.size (by simp)) (own_block_le hor))
            have hvs : hv cc (p + 1) = hv cc p ++ [(p : Int)] := by rw [hv_succ, if_pos (by rw [hC]; exact hpos)]
            obtain ⟨a5, k5, e5⟩ := own_shape o5
            have e5' : v' = .slice a5 (m + 1) k5 := by rw [← hm]; exact e5
            have HG : Hid (y5.ownsRow wL.heap.size 3 1 v' (hv cc (p + 1)).length ((hv cc (p + 1)).flatMap nC) ∧ Below wL.heap.size wL y5) := ⟨by rw [hvs, List.length_append]; exact o5, hb5⟩
            rw [hm] at hov
            subst hov e5'
            have HR5 := hide r5
            have hd : decide (0 < C) = true := decide_eq_true hpos
            have hd2 : decide (C > 0) = true := decide_eq_true hpos
            clear hor hbr hlen hm hC o5 g5 hb5 hvs e5 r5 hpos
            go_wp2_with (at_builtin; refine wpList_append_run rfl _ _ 30 30 rfl rfl rfl (unhide HR5) ?_)
            go_roundw
            case rel => exact ⟨p + 1, by omega, by go_num, (unhide HG).1, (unhide HG).2⟩
            case measure => simp [intOf]; omega
          · have hvs : hv cc (p + 1) = hv cc p := by rw [hv_succ, if_neg (by rw [hC]; exact hpos)]
            have HG : Hid (wr.ownsRow wL.heap.size 3 1 u8 (hv cc (p + 1)).length ((hv cc (p + 1)).flatMap nC) ∧ Below wL.heap.size wL wr) := ⟨by rw [hvs]; exact hor, hbr⟩
            rw [hm] at hov
            subst hov
            have hd : decide (0 < C) = false := decide_eq_false hpos
            have hd2 : decide (C > 0) = false := decide_eq_false hpos
            clear hor hbr hlen hm hC hvs hpos
            go_wp2
            go_roundw
            case rel => exact ⟨p + 1, by omega, by go_num, (unhide HG).1, (unhide HG).2⟩
            case measure => simp [intOf]; omega
        · obtain rfl : p = 8 := by omega
          have HG : Hid (wr.ownsRow w.heap.size 3 1 u8 (hv cc 8).length ((hv cc 8).flatMap nC) ∧ Below w.heap.size w wr) := ⟨own_mono hor (unhide HW).2.size, (unhide HW).2.trans (hbr.mono (unhide HW).2.size)⟩
          rw [hm] at hov
          subst hov
          clear hor hbr hlen hm
          go_wp2
          go_ret
          exact ⟨_, rfl, by rw [unhide HCC]; exact (unhide HG).1, (unhide HG).2⟩
end Go.Proofs.Ytibjhjkeflbghaa
