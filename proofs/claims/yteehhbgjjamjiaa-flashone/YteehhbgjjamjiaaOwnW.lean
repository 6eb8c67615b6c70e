/- FlashOwn's walk. -/
import Derived.Test.YteehhbgjjamjiaaT0
namespace Go.Proofs.Yteehhbgjjamjiaa
open Go.RowKit

theorem add_block (a : Addr) (t : Nat) : (a.add t).block = a.block := by unfold Addr.add; split <;> simp_all

/-- Bytes that are seen, in blocks from lo up to hi. -/
def SeesR (lo hi : Nat) (w : World) (v : Value) (zs : List Int) : Prop := Sees w .u8 v zs ∧ ∀ a l c, v = .slice (some a) l c → lo ≤ a.block ∧ a.block < hi

theorem SeesR.upd {lo hi N : Nat} {w w' : World} {v : Value} {zs : List Int} {S : Nat → Prop} (h : SeesR lo hi w v zs) (hu : Upd S N w w') (hN : hi ≤ N) (hS : ∀ k, lo ≤ k → k < hi → ¬ S k) : SeesR lo hi w' v zs := by
  refine ⟨?_, h.2⟩
  obtain ⟨ao, cap, rfl, hl, hn, ha⟩ := h.1
  refine ⟨ao, cap, rfl, hl, hn, fun a e t ht => ?_⟩
  subst e
  obtain ⟨h1, h2⟩ := h.2 a _ _ rfl
  rw [hu.cell (p := a.add t) (by rw [add_block]; omega) (by rw [add_block]; exact hS _ h1 h2)]
  exact ha a rfl t ht

theorem SeesR.below {lo hi N : Nat} {w w' : World} {v : Value} {zs : List Int} (h : SeesR lo hi w v zs) (hb : Below N w w') (hN : hi ≤ N) : SeesR lo hi w' v zs :=
  h.upd (S := fun _ => False) (Upd.of hb) hN (fun _ _ _ c => c)

theorem own_seesR {lo : Nat} {w : World} {x : Value} {n : Nat} {zs : List Int} (h : w.ownsRow lo 5 1 x n (ints .u8 zs)) : SeesR lo w.heap.size w x zs := by
  refine ⟨(sees_of_own h).2, fun a l c e => ?_⟩
  rcases h.2 with ⟨rfl, _⟩ | ⟨g, cap, cur, rfl, hb, hh, _⟩
  · cases e
  · simp only [Value.slice.injEq, Option.some.injEq] at e
    obtain ⟨rfl, _, _⟩ := e
    exact ⟨hb, (Array.getElem?_eq_some_iff.1 hh).1⟩

theorem own8_seesR {lo : Nat} {w : World} {x : Value} {ys : List Int} (h : Own8 lo w x ys) (h0 : 0 < ys.length) : SeesR lo w.heap.size w x ys := by
  refine ⟨h.sees, fun a l c e => ?_⟩
  obtain ⟨g, cap, rfl, _, hb, hc, _⟩ := h
  simp only [Value.slice.injEq, Option.some.injEq] at e
  obtain ⟨rfl, _, _⟩ := e
  exact ⟨hb, World.block_lt_of_cell? w _ (hc 0 h0)⟩

theorem equal_same {av bv : Value} {xs : List Int} {w : World} (ha : Sees w .u8 av xs) (hb : Sees w .u8 bv xs) (hx : Byt xs) :
    Calls Try.prog 28 #[av, bv] w fun e w' => e = .returned (.bool true) ∧ w = w' := by
  refine (equal_any av bv xs xs w ha hb hx hx).mono ?_
  rintro e w' ⟨rfl, rfl⟩
  exact ⟨ret_bool (by simp), rfl⟩

/-- Turned and turned back, other things between: below all is as it was. -/
theorem below_back {w w7 w8 w9 w10 : World} {gb ob n : Nat} {f g : Nat → Value} (h7 : Below w.heap.size w w7) (h8 : Turned w7 w8 gb ob n f) (h9 : Below w8.heap.size w8 w9) (h10 : Turned w9 w10 gb ob n g) (hc : ∀ t, t < n → w7.cell? ⟨gb, ob + t, none⟩ = some (g t)) (hgb : 0 < n → gb < w.heap.size) : Below w.heap.size w w10 := by
  have s7 := h7.size; have s8 := h8.1.size; have s9 := h9.size
  refine ⟨?_, ?_, ?_, ?_, fun k hk => ?_⟩
  · rw [h10.1.os, h9.os, h8.1.os, h7.os]
  · rw [h10.1.tape, h9.tape, h8.1.tape, h7.tape]
  · rw [h10.1.output, h9.output, h8.1.output, h7.output]
  · have := h10.1.size; omega
  · by_cases c : k = gb ∧ 0 < n
    · obtain ⟨rfl, h0⟩ := c
      rw [h8.back (h9.block k (by omega)) h10 hc h0, h7.block k hk]
    · rw [h10.1.block k (by omega) c, h9.block k (by omega), h8.1.block k (by omega) c, h7.block k hk]

def oF1 (zs : List Int) : Fl := (Fl.blank 1).changed (putA 0 0) 2 (strOf (pageL zs))
theorem o1_st (zs : List Int) : (oF1 zs).st 0 0 = 2 := rfl
theorem o1_bs (zs : List Int) : (oF1 zs).bs 0 0 = strOf (pageL zs) := rfl

def inc (zs : List Int) (t : Nat) : Value := .int .u8 ((zs.getD t 0 + 1) % 256)
def own (zs : List Int) (t : Nat) : Value := .int .u8 (zs.getD t 0)

set_option maxRecDepth 100000 in
set_option maxHeartbeats 3200000 in
theorem flashOwn_short (ao : Option Addr) (cp gb ob : Nat) (zs : List Int) (w : World) (hs : Sees w .u8 (.slice ao zs.length cp) zs) (hby : Byt zs) (hao : 0 < zs.length → ao = some ⟨gb, ob, none⟩) (hfr : ∀ t, t < zs.length → w.frozen? ⟨gb, ob + t, none⟩ = false) (hl : zs.length ≤ 256) :
    Calls Try.prog 6 #[.slice ao zs.length cp] w fun e w' => e = .returned (.bool true) ∧ Below w.heap.size w w' := by
  have hlc : zs.length ≤ cp := by obtain ⟨_, _, e, h1, _⟩ := hs; simp at e; omega
  have HS : Hid (∀ w', Below w.heap.size w w' → Sees w' .u8 (.slice ao zs.length cp) zs) := fun w' hb => hs.below hb
  have hcell0 : ∀ t, t < zs.length → w.cell? ⟨gb, ob + t, none⟩ = some (own zs t) := by
    intro t ht
    obtain ⟨ao', cp', e, _, _, hc⟩ := hs
    have := hao (by omega)
    subst this
    simp only [Value.slice.injEq, true_and] at e
    have hh := hc ⟨gb, ob, none⟩ e.1.symm t ht
    have hadd : (⟨gb, ob, none⟩ : Addr).add t = ⟨gb, ob + t, none⟩ := by unfold Addr.add; split <;> simp_all
    rw [hadd] at hh
    exact hh
  have HC := hide hcell0
  have HFR := hide hfr
  have HAO := hide hao
  clear hs hcell0 hfr hao
  go_enter Try.func6, Try.ntmps6
  go_wp2_with fail
  refine (new_ok 1 w (by omega) (by omega)).mono ?_
  rintro e w1 ⟨g, h, cap, rfl, hI1, hb1, hg, hh⟩
  have hgl := hI1.glt
  have hhl := hI1.hlt
  have HI1 := hide hI1
  have HB1 := hide hb1
  clear hI1 hb1
  go_wp2_with fail
  refine (begun_any w1).mono ?_
  rintro e w2 ⟨rfl, hb2⟩
  have HI2 := hide ((unhide HI1).below hb2)
  have HB2 := hide ((unhide HB1).trans (hb2.mono (unhide HB1).size))
  have hs12 := hb2.size
  clear hb2
  go_wp2_with fail
  refine (clone_any _ zs w2 (unhide HS w2 (unhide HB2)) (by omega)).mono ?_
  rintro e w3 ⟨x1, rfl, hx1, hb3⟩
  have HX1 := hide (own_seesR hx1)
  have HI3 := hide ((unhide HI2).below hb3)
  have HB3 := hide ((unhide HB2).trans (hb3.mono (unhide HB2).size))
  have hs23 := hb3.size
  clear hb3 hx1
  go_wp2_with fail
  refine (prog_ok (F := Fl.blank 1) (unhide HI3) (Int.le_refl _) (by decide) rfl 0 0 (by decide) (by decide) _ zs (unhide HS w3 (unhide HB3)) hby hl rfl).mono ?_
  rintro e w4 ⟨he, hI4, hU4⟩
  obtain rfl : e = Ending.returned (.int .i64 0) := he
  have HI4 : Hid (IsFl w4 g h cap (oF1 zs)) := hI4
  have hTw : ∀ k, k < w.heap.size → ¬ Two g h k := by intro k hk; show ¬ (k = g ∨ k = h); omega
  have hTw2 : ∀ k, w2.heap.size ≤ k → ¬ Two g h k := by intro k hk; show ¬ (k = g ∨ k = h); omega
  have hb01 := (unhide HB1).size
  have HB4 := hide ((unhide HB3).trans (hU4.below (by omega) hTw))
  have HX4 := hide ((unhide HX1).upd hU4 (Nat.le_refl _) (fun k h1 _ => hTw2 k h1))
  have hs34 := hU4.size
  clear hI4 hU4 HX1 HI1 HI2 HI3 HB1 HB2 HB3
  go_wp2_with fail
  refine (read_ok (unhide HI4) rfl 0 0 Nat.one_pos (by decide) rfl).mono ?_
  rintro e w5 ⟨x, rfl, hx, hb5⟩
  have HI5 := hide ((unhide HI4).below hb5)
  have HB5 := hide ((unhide HB4).trans (hb5.mono (by omega)))
  have HX5 := hide ((unhide HX4).below hb5 hs34)
  have hs45 := hb5.size
  have hx : Own8 w4.heap.size w5 x (pageL zs) := by
    have e1 : bytesOf ((oF1 zs).bs 0 0) = pageL zs := bytesOf_strOf (pageL_byt hby)
    rw [e1] at hx; exact hx
  have hlen : (pageL zs).length = 256 := pageL_length hl
  obtain ⟨gx, cx, hxe, hcx, hgx, hxc, hxf⟩ := hx
  rw [hlen] at hxe hxc hxf hcx
  subst hxe
  have HR5 : Hid (Row8 w5 w5 gx 256) := ⟨Upd.refl _ _ _, fun t ht => ⟨_, hxc t ht, hxf t ht⟩⟩
  clear hb5 hxc hxf HX4 HB4 HI4 hlen
  go_wp2
  go_loopw [40] (fun c wr => ∃ k : Nat, k ≤ 256 ∧ c = .int .i64 k ∧ Row8 w5 wr gx 256) (fun c _ => 256 - (intOf c).toNat)
  case atStart => exact ⟨0, by omega, rfl, unhide HR5⟩
  case round =>
    obtain ⟨k, hk, rfl, hrow⟩ := hrel
    by_cases hlt : k < 256
    · obtain ⟨u, hu1, hu2⟩ := hrow.2 k hlt
      have HRW := hide hrow
      clear hrow
      go_wp2
      go_roundw
      case rel => exact ⟨k + 1, by omega, by go_num, (unhide HRW).step _⟩
      case measure => simp [intOf]; omega
    · have HRW := hide hrow
      clear hrow
      have hRU := (unhide HRW).1
      have HI6 := hide ((unhide HI5).upd hRU (Nat.le_refl _) (by show ¬ g = gx; omega) (by show ¬ h = gx; omega))
      have HB6 := hide ((unhide HB5).trans (hRU.below (by omega) (fun k hk => by show ¬ k = gx; omega)))
      have HX6 := hide ((unhide HX5).upd hRU (by omega) (fun k _ hk => by show ¬ k = gx; omega))
      have hs56 := hRU.size
      clear hRU HRW HI5 HB5 HX5 HR5
      go_wp2_with fail
      refine (clone_any _ zs wr (unhide HS wr (unhide HB6)) (by omega)).mono ?_
      rintro e w7 ⟨x2, rfl, hx2, hb7⟩
      have HX7 := hide ((unhide HX6).below hb7 (by omega))
      have HY7 := hide (own_seesR hx2)
      have HI7 := hide ((unhide HI6).below hb7)
      have HB7 := hide ((unhide HB6).trans (hb7.mono (by omega)))
      have hs67 := hb7.size
      have HC7 : Hid (∀ t, t < zs.length → w7.cell? ⟨gb, ob + t, none⟩ = some (own zs t) ∧ w7.frozen? ⟨gb, ob + t, none⟩ = false ∧ gb < w.heap.size) := by
        intro t ht
        have h1 := unhide HC t ht
        have h2 := World.block_lt_of_cell? w _ h1
        exact ⟨((unhide HB7).cell (p := ⟨gb, ob + t, none⟩) h2).trans h1, ((unhide HB7).frozen (p := ⟨gb, ob + t, none⟩) h2).trans (unhide HFR t ht), h2⟩
      clear hb7 hx2 HX6 HI6 HB6
      go_wp2
      go_loopw [54] (fun c wr => ∃ k : Nat, k ≤ zs.length ∧ c = .int .i64 k ∧ Turned w7 wr gb ob k (inc zs)) (fun c _ => zs.length - (intOf c).toNat)
      case atStart => exact ⟨0, by omega, rfl, Turned.zero _ _ _ _⟩
      case round =>
        obtain ⟨k, hk, rfl, htn⟩ := hrel
        by_cases hlt : k < zs.length
        · obtain ⟨c1, c2, c3⟩ := unhide HC7 k hlt
          obtain rfl := unhide HAO (by omega)
          have r1 := htn.rest c1 (Nat.le_refl _)
          have r2 := (htn.frozen c1).trans c2
          have HT := hide htn.succ
          have hz := hby.get k
          unfold own at r1
          obtain ⟨z, hzz⟩ : ∃ z, zs.getD k 0 = z := ⟨_, rfl⟩
          have HZ := hide hzz
          rw [hzz] at r1 hz
          obtain ⟨hz0, hz1⟩ := hz
          clear htn c1 c2 c3 hzz
          go_wp2
          go_roundw
          case rel => exact ⟨k + 1, by omega, by go_num, by have := unhide HT; unfold inc at this; rw [unhide HZ] at this; exact this⟩
          case measure => simp [intOf]; omega
        · obtain rfl : k = zs.length := by omega
          have hTU := htn.1
          have hgbl : ∀ x, (x = gb ∧ 0 < zs.length) → x < w.heap.size := by rintro x ⟨rfl, h0⟩; exact (unhide HC7 0 h0).2.2
          have hsw7 := (unhide HB7).size
          have HI8 := hide ((unhide HI7).upd hTU (Nat.le_refl _) (fun c => by have := hgbl g c; omega) (fun c => by have := hgbl h c; omega))
          have HX8 := hide ((unhide HX7).upd hTU (by omega) (fun k h1 _ c => by have := hgbl k c; omega))
          have HY8 := hide ((unhide HY7).upd hTU (Nat.le_refl _) (fun k h1 _ c => by have := hgbl k c; omega))
          have hs78 := hTU.size
          have HT8 := hide htn
          clear hTU htn HI7 HX7 HY7
          go_wp2_with fail
          refine (read_ok (unhide HI8) rfl 0 0 Nat.one_pos (by decide) rfl).mono ?_
          rintro e w9 ⟨y, rfl, hy, hb9⟩
          have hy : Own8 wr.heap.size w9 y (pageL zs) := by
            have e1 : bytesOf ((oF1 zs).bs 0 0) = pageL zs := bytesOf_strOf (pageL_byt hby)
            rw [e1] at hy; exact hy
          have HV9 := hide (own8_seesR hy (by rw [pageL_length hl]; omega))
          have HX9 := hide ((unhide HX8).below hb9 (by omega))
          have HY9 := hide ((unhide HY8).below hb9 (by omega))
          have hs89 := hb9.size
          have HC9 : Hid (∀ t, t < zs.length → w9.cell? ⟨gb, ob + t, none⟩ = some (inc zs t) ∧ w9.frozen? ⟨gb, ob + t, none⟩ = false ∧ w9.heap[gb]? = wr.heap[gb]?) := by
            intro t ht
            obtain ⟨c1, c2, c3⟩ := unhide HC7 t ht
            have d1 := (unhide HT8).done c1 ht
            have d2 := ((unhide HT8).frozen c1).trans c2
            exact ⟨(hb9.cell (p := ⟨gb, ob + t, none⟩) (by show gb < _; omega)).trans d1, (hb9.frozen (p := ⟨gb, ob + t, none⟩) (by show gb < _; omega)).trans d2, hb9.block gb (by omega)⟩
          have HB9 := hide hb9
          clear hb9 HI8 HX8 HY8 hy
          go_wp2
          go_loopw [71] (fun c wr => ∃ k : Nat, k ≤ zs.length ∧ c = .int .i64 k ∧ Turned w9 wr gb ob k (own zs)) (fun c _ => zs.length - (intOf c).toNat)
          case atStart => exact ⟨0, by omega, rfl, Turned.zero _ _ _ _⟩
          case round =>
            obtain ⟨k, hk, rfl, htn⟩ := hrel
            by_cases hlt : k < zs.length
            · obtain ⟨c1, c2, c3⟩ := unhide HC9 k hlt
              obtain rfl := unhide HAO (by omega)
              have r1 := htn.rest c1 (Nat.le_refl _)
              have r2 := (htn.frozen c1).trans c2
              have HT := hide htn.succ
              have hz := hby.get k
              unfold inc at r1
              obtain ⟨z, hzz⟩ : ∃ z, zs.getD k 0 = z := ⟨_, rfl⟩
              have HZ := hide hzz
              rw [hzz] at r1 hz
              obtain ⟨hz0, hz1⟩ := hz
              obtain ⟨y1, hy1⟩ : ∃ y1, (z + 1) % 256 = y1 := ⟨_, rfl⟩
              have HY1 := hide hy1
              have hy10 : 0 ≤ y1 := by omega
              have hy11 : y1 ≤ 255 := by omega
              rw [hy1] at r1
              clear htn c1 c2 c3 hzz hy1
              go_wp2
              go_roundw
              case rel =>
                refine ⟨k + 1, by omega, by go_num, ?_⟩
                have := unhide HT
                unfold own at this
                rw [unhide HZ] at this
                have e1 := unhide HY1
                have e2 : (y1 - 1) % 256 = z := by omega
                rw [e2]
                exact this
              case measure => simp [intOf]; omega
            · obtain rfl : k = zs.length := by omega
              have hTU := htn.1
              have HB10 := hide (below_back (unhide HB7) (unhide HT8) (unhide HB9) htn (fun t ht => (unhide HC7 t ht).1) (fun h0 => (unhide HC7 0 h0).2.2))
              have HX10 := hide ((unhide HX9).upd hTU (by omega) (fun k h1 _ c => by have := hgbl k c; omega)).1
              have HY10 := hide ((unhide HY9).upd hTU (by omega) (fun k h1 _ c => by have := hgbl k c; omega)).1
              have HV10 := hide ((unhide HV9).upd hTU (by omega) (fun k h1 _ c => by have := hgbl k c; omega)).1
              have HE1 := hide (equal_same (unhide HX10) (unhide HY10) hby)
              have HE2 := hide (equal_same (unhide HX10) (unhide HS _ (unhide HB10)) hby)
              clear hTU htn HT8 HB9 HC9 HX9 HY9 HV9 HB7 HC7
              go_wp2_with fail
              refine (unhide HE1).mono ?_
              rintro e w11 ⟨rfl, rfl⟩
              go_wp2_with fail
              refine (unhide HE2).mono ?_
              rintro e w11 ⟨rfl, rfl⟩
              go_wp2_with fail
              refine (full_any x1 zs _ (unhide HX10) hl).mono ?_
              rintro e w12 ⟨xf, rfl, hxf, hb12⟩
              have HE3 := hide (equal_same ((unhide HV10).below hb12) hxf (pageL_byt hby))
              have HB12 := hide ((unhide HB10).trans (hb12.mono (unhide HB10).size))
              clear hxf hb12
              go_wp2_with fail
              refine (unhide HE3).mono ?_
              rintro e w13 ⟨rfl, rfl⟩
              go_wp2
              go_ret
              exact ⟨rfl, unhide HB12⟩

end Go.Proofs.Yteehhbgjjamjiaa
