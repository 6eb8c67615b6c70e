/- TrailingZeros64, and draw: the next height. -/
import Derived.Test.YtdcmkapfcmibeaaDoorM6
namespace Go.Proofs.YtdcmkapfcmibeaaDoor
open Go.RowKit Go.Shelf
attribute [local go_sem] Oper.semAt_some
set_option maxRecDepth 100000

/-- The table by which trailing zeros are found. -/
def deB : List Int := [0, 1, 56, 2, 57, 49, 28, 3, 61, 58, 42, 50, 38, 29, 17, 4, 62, 47, 59, 36, 45, 43, 51, 22, 53, 39, 33, 30, 24, 18, 12, 5, 63, 55, 48, 27, 60, 41, 37, 16, 46, 35, 44, 21, 52, 32, 23, 11, 54, 26, 40, 15, 34, 20, 31, 10, 25, 14, 19, 9, 13, 8, 7, 6]
def Tab (w : World) : Prop := ∀ i, i < 64 → w.cell? ⟨0, i, none⟩ = some (.int .u8 (deB.getD i 0))
theorem Tab.keep {w w' : World} (h : Tab w) (hk : w'.heap[0]? = w.heap[0]?) : Tab w' := fun i hi => (World.cell?_of_block (w := w) (a := ⟨0, i, none⟩) hk).trans (h i hi)
theorem deB_range (i : Nat) : 0 ≤ deB.getD i 0 ∧ deB.getD i 0 ≤ 63 := by
  have hall : ∀ v ∈ deB, 0 ≤ v ∧ v ≤ 63 := by decide
  by_cases h : i < deB.length
  · rw [List.getD, List.getElem?_eq_getElem h]; exact hall _ (List.getElem_mem h)
  · rw [List.getD, List.getElem?_eq_none (by omega)]; simp
def tzI (x : Int) : Int := IntKind.u64.wrap (bits BinOp.and IntKind.u64 x (IntKind.u64.wrap (-x)) * 285870213051353865) / 288230376151711744
theorem u64_wrap (x : Int) : 0 ≤ IntKind.u64.wrap x ∧ IntKind.u64.wrap x < 18446744073709551616 := by
  simp [IntKind.wrap, IntKind.signed, IntKind.bits]
  omega
theorem tzI_range (x : Int) : 0 ≤ tzI x ∧ tzI x < 64 := by
  unfold tzI
  have := u64_wrap (bits BinOp.and IntKind.u64 x (IntKind.u64.wrap (-x)) * 285870213051353865)
  omega
def tz (x : Int) : Int := if x = 0 then 64 else deB.getD (tzI x).toNat 0
theorem tz_range (x : Int) : 0 ≤ tz x ∧ tz x ≤ 64 := by
  unfold tz
  have := deB_range (tzI x).toNat
  split <;> omega
theorem tz_any (x : Int) (w : World) (hT : Tab w) : Calls Tryd.prog 70 #[.int .u64 x] w fun e w' => e = .returned (.int .i64 (tz x)) ∧ w = w' := by
  by_cases hx : x = 0
  · rw [tz, if_pos hx]
    subst hx
    go_enter Tryd.func70, Tryd.ntmps70
    go_wp2
    go_ret
    exact ⟨rfl, rfl⟩
  · rw [tz, if_neg hx]
    have hx' : (x == 0) = false := by simpa using hx
    have hr := tzI_range x
    have hc := hT (tzI x).toNat (by omega)
    have hv := deB_range (tzI x).toNat
    obtain ⟨v, hv0⟩ : ∃ v, deB.getD (tzI x).toNat 0 = v := ⟨_, rfl⟩
    rw [hv0] at hc hv ⊢
    have hw : IntKind.i64.wrap v = v := wrap_i64 _ (by omega) (by omega)
    have h0 := hr.1
    have h1 := hr.2
    unfold tzI at hc h0 h1
    clear hv0 hr hT hx hv
    go_enter Tryd.func70, Tryd.ntmps70
    go_wp2
    go_ret
    first | exact ⟨rfl, rfl⟩ | exact ⟨retInt hw, rfl⟩

theorem xor64_range (a b : Int) : 0 ≤ bits .xor .u64 a b ∧ bits .xor .u64 a b < 18446744073709551616 := by
  show 0 ≤ IntKind.u64.wrap ((BitVec.ofInt 64 a ^^^ BitVec.ofInt 64 b).toNat : Int) ∧ IntKind.u64.wrap ((BitVec.ofInt 64 a ^^^ BitVec.ofInt 64 b).toNat : Int) < _
  rw [IntKind.wrap_u64]
  omega

def mixA (x : Int) : Int := bits .xor .u64 x (IntKind.u64.wrap (x * 8192))
def mixB (x : Int) : Int := bits .xor .u64 x (x / 128)
def mixC (x : Int) : Int := bits .xor .u64 x (IntKind.u64.wrap (x * 131072))
/-- The number of which the next height is drawn. -/
def nextX (x : Int) : Int := mixC (mixB (mixA x))
def notX (x : Int) : Int := bits .xor .u64 IntKind.u64.max x
/-- The height. -/
def hgt (x : Int) : Int := if 8 < 1 + tz (notX x) then 8 else 1 + tz (notX x)
theorem hgt_range (x : Int) : 1 ≤ hgt x ∧ hgt x ≤ 8 := by
  unfold hgt
  have := tz_range (notX x)
  split <;> omega
/-- A store whose next number is another one. -/
theorem Sk.luckTo {w : World} {b0 sb hd : Nat} {L : List Nd} {luck : Int} (h : Sk w b0 sb hd L luck) {v : Int} (hv : 0 ≤ v ∧ v < 18446744073709551616) : Sk (w.setCell ⟨sb, 10, none⟩ (.int .u64 v)).drew b0 sb hd L v := by
  obtain ⟨N, hm, hlk⟩ := h.mem
  exact ⟨⟨N, (hm.setLuck v).keep fun _ _ => rfl, hlk⟩, h.rise, h.apart, h.ok, h.most, h.from_, hv⟩
theorem Sk.c10 {w : World} {b0 sb hd : Nat} {L : List Nd} {luck : Int} (h : Sk w b0 sb hd L luck) : w.cell? ⟨sb, 10, none⟩ = some (.int .u64 luck) ∧ w.frozen? ⟨sb, 10, none⟩ = false := by
  obtain ⟨N, hm, hlk⟩ := h.mem
  exact ⟨cell_at hm.sk, hm.frozenS⟩
set_option maxHeartbeats 1000000 in
theorem draw_any {w : World} {b0 sb hd : Nat} {L : List Nd} {luck : Int} (h : Sk w b0 sb hd L luck) (hT : Tab w) (hb : 0 < b0) :
    Calls Tryd.prog 48 #[PN sb] w fun e w' => e = .returned (.int .i64 (hgt (nextX luck))) ∧ Sk w' b0 sb hd L (nextX luck) ∧ Upd (fun k => k = sb) w.heap.size w w' := by
  have hsb : 0 < sb := Nat.lt_of_lt_of_le hb (h.from_ _ (.inl rfl))
  obtain ⟨a1, ha1⟩ : ∃ a, IntKind.u64.wrap (luck * 8192) = a := ⟨_, rfl⟩
  obtain ⟨x1, hx1⟩ : ∃ a, bits BinOp.xor IntKind.u64 luck a1 = a := ⟨_, rfl⟩
  obtain ⟨x2, hx2⟩ : ∃ a, bits BinOp.xor IntKind.u64 x1 (x1 / 128) = a := ⟨_, rfl⟩
  obtain ⟨a3, ha3⟩ : ∃ a, IntKind.u64.wrap (x2 * 131072) = a := ⟨_, rfl⟩
  obtain ⟨x3, hx3⟩ : ∃ a, bits BinOp.xor IntKind.u64 x2 a3 = a := ⟨_, rfl⟩
  have hnx : nextX luck = x3 := by rw [nextX, mixA, ha1, hx1, mixB, hx2, mixC, ha3, hx3]
  rw [hnx]
  have r1 : 0 ≤ x1 ∧ x1 < 18446744073709551616 := by rw [← hx1]; exact xor64_range _ _
  have r2 : 0 ≤ x2 ∧ x2 < 18446744073709551616 := by rw [← hx2]; exact xor64_range _ _
  have r3 : 0 ≤ x3 ∧ x3 < 18446744073709551616 := by rw [← hx3]; exact xor64_range _ _
  have s1 := h.luckTo r1
  obtain ⟨Y1, hY1⟩ : ∃ Y, (w.setCell ⟨sb, 10, none⟩ (.int .u64 x1)).drew = Y := ⟨_, rfl⟩
  rw [hY1] at s1
  have s2 := s1.luckTo r2
  obtain ⟨Y2, hY2⟩ : ∃ Y, (Y1.setCell ⟨sb, 10, none⟩ (.int .u64 x2)).drew = Y := ⟨_, rfl⟩
  rw [hY2] at s2
  have s3 := s2.luckTo r3
  obtain ⟨Y3, hY3⟩ : ∃ Y, (Y2.setCell ⟨sb, 10, none⟩ (.int .u64 x3)).drew = Y := ⟨_, rfl⟩
  rw [hY3] at s3
  have hU : Upd (fun k => k = sb) w.heap.size w Y3 := by
    have u1 : Upd (fun k => k = sb) w.heap.size w Y1 := by rw [← hY1]; exact ((Upd.refl (fun k => k = sb) _ w).setCell (p := ⟨sb, 10, none⟩) (.inl rfl) _).drew
    have u2 : Upd (fun k => k = sb) w.heap.size w Y2 := by rw [← hY2]; exact (u1.setCell (p := ⟨sb, 10, none⟩) (.inl rfl) _).drew
    rw [← hY3]; exact (u2.setCell (p := ⟨sb, 10, none⟩) (.inl rfl) _).drew
  have hw0 : 0 < w.heap.size := Nat.lt_trans hsb (h.lt (.inl rfl))
  have hT3 : Tab Y3 := hT.keep (hU.block 0 hw0 (by omega))
  obtain ⟨z, hz⟩ : ∃ z, notX x3 = z := ⟨_, rfl⟩
  have hz' : bits BinOp.xor IntKind.u64 IntKind.u64.max x3 = z := hz
  have HZ := hide (tz_any z Y3 hT3)
  have hzr := tz_range z
  have hh : hgt x3 = if 8 < 1 + tz z then 8 else 1 + tz z := by rw [hgt, hz]
  rw [hh]
  obtain ⟨y, hy⟩ : ∃ y, tz z = y := ⟨_, rfl⟩
  rw [hy] at HZ hzr ⊢
  have hwy : IntKind.i64.wrap (1 + y) = 1 + y := wrap_i64 _ (by omega) (by omega)
  obtain ⟨c0, f0⟩ := h.c10
  obtain ⟨c1, f1⟩ := s1.c10
  obtain ⟨c2, f2⟩ := s2.c10
  obtain ⟨c3, f3⟩ := s3.c10
  have HF := hide (And.intro s3 hU)
  have HY1 := hide hY1
  have HY2 := hide hY2
  have HY3 := hide hY3
  clear h hT s1 s2 s3 hU hT3 hh hz hy hnx hY1 hY2 hY3
  go_enter Tryd.func48, Tryd.ntmps48
  go_wp2
  go_region
  rw [unhide HY1]
  clear c0 f0
  go_wp2
  go_region
  rw [unhide HY2]
  clear c1 f1
  go_wp2
  go_region
  rw [unhide HY3]
  clear c2 f2
  go_wp2_with fail
  refine (unhide HZ).mono ?_
  rintro e w' ⟨rfl, rfl⟩
  go_wp2
  all_goals go_ret
  all_goals exact ⟨rfl, (unhide HF).1, (unhide HF).2⟩
end Go.Proofs.YtdcmkapfcmibeaaDoor
