/- MatchOrder: the walk of a book that is made. -/
import Derived.Test.YtgehhoddmmjmjaaMQ
namespace Go.Proofs.Ytgehhoddmmjmjaa
open Go.RowKit
set_option maxRecDepth 100000

/-- The turns, bytes. -/
def SeesT (w : World) (v : Value) (k : Nat) (ts : Nat → Int) : Prop :=
  ∃ ao cap b o, v = .slice ao k cap ∧ k ≤ cap ∧ (0 < k → ao = some ⟨b, o, none⟩) ∧ ∀ t, t < k → w.cell? ⟨b, o + t, none⟩ = some (.int .u8 (ts t)) ∧ 0 ≤ ts t ∧ ts t ≤ 255
theorem SeesT.below {w w' : World} {v : Value} {k : Nat} {ts : Nat → Int} (h : SeesT w v k ts) (hb : Below w.heap.size w w') : SeesT w' v k ts := by
  obtain ⟨ao, cap, b, o, h1, h2, h3, h4⟩ := h
  exact ⟨ao, cap, b, o, h1, h2, h3, fun t ht => ⟨(hb.cell (p := ⟨b, o + t, none⟩) (World.block_lt_of_cell? w _ (h4 t ht).1)).trans (h4 t ht).1, (h4 t ht).2⟩⟩

theorem tmod_nat {x : Int} {m : Nat} (h0 : 0 ≤ x) (hm : 0 < m) : ∃ k : Nat, k < m ∧ x.tmod m = k := by
  refine ⟨(x.tmod m).toNat, ?_, ?_⟩
  · rw [Int.tmod_eq_emod_of_nonneg h0]
    have := Int.emod_lt_of_pos x (show (0 : Int) < m by omega)
    have := Int.emod_nonneg x (show (m : Int) ≠ 0 by omega)
    omega
  · rw [Int.tmod_eq_emod_of_nonneg h0]
    have := Int.emod_nonneg x (show (m : Int) ≠ 0 by omega)
    omega

def AtSw (w : World) (n s m h1 h2 : Nat) (B : Bk) (os : Nat → OpV) (ov : Value) (c : Value) (x : World) : Prop :=
  ∃ (i : Nat) (f' : Nat → OpV), i ≤ m ∧ c = .int .i64 i ∧ SameOps m f' os ∧ Two w n s m h1 h2 B os f' ov 0 x
def AtTell (w : World) (n s m h1 h2 : Nat) (B : Bk) (f g : Nat → OpV) (ov : Value) (c : Value) (x : World) : Prop :=
  ∃ t : Nat, t ≤ m ∧ c = .int .i64 t ∧ Two w n s m h1 h2 B f g ov t x
def AtEq (w : World) (n s m h1 h2 : Nat) (B : Bk) (f g : Nat → OpV) (ov : Value) (c : Value) (x : World) : Prop :=
  ∃ k : Nat, k ≤ n ∧ c = .int .i64 k ∧ Two w n s m h1 h2 B f g ov m x

theorem Two.swap {w : World} {n s m h1 h2 : Nat} {B : Bk} {f f' : Nat → OpV} {g cap : Nat} {x : World} (T : Two w n s m h1 h2 B f f' (.slice (some ⟨g, 0, none⟩) m cap) 0 x) {i k : Nat} (hi : i < m) (hk : k < m) :
    Two w n s m h1 h2 B f (setO (setO f' i (f' k)) k (f' i)) (.slice (some ⟨g, 0, none⟩) m cap) 0 (put3 (put3 x g i (f' k)) g k (f' i)) := by
  have hm : 0 < m := by omega
  obtain ⟨ao, cp, g', hv, hc, hx⟩ := T.ow
  simp only [Value.slice.injEq, true_and] at hv
  obtain ⟨rfl, rfl⟩ := hv
  obtain ⟨e, hN, h3, h4⟩ := hx hm
  simp only [Option.some.injEq, Addr.mk.injEq, and_true] at e
  subst e
  have hne := T.n1 cap g rfl hm
  have ho : Oth w x g m f' := ⟨h3, h4, hN⟩
  have ho2 := (ho.put i hi (f' k)).put k hk (f' i)
  refine ⟨?_, ?_, ⟨_, cap, g, rfl, hc, fun _ => ⟨rfl, hN, ho2.at', ho2.fr⟩⟩, put3_below (put3_below T.lo hN) hN, T.a1, T.a2, T.ne, T.n1⟩
  · exact T.i1.keepB (by rw [put3_other (Ne.symm hne.1), put3_other (Ne.symm hne.1)])
  · exact T.i2.keepB (by rw [put3_other (Ne.symm hne.2), put3_other (Ne.symm hne.2)])

set_option maxHeartbeats 3200000 in
theorem order_ok (n s : Nat) (l : Int) (h0 : 1 ≤ n) (h1 : n ≤ 5) (h3 : s < n) (h4 : 0 ≤ l) (h5 : l ≤ 1099511627776) (sv : Value) (m : Nat) (os : Nat → OpV) (tv : Value) (kt : Nat) (ts : Nat → Int) (w : World) (hs : SeesOps w sv m os) (hnil : ∀ c, sv = .slice none m c → c = 0) (hm : m ≤ 5864062014634) (ht : SeesT w tv kt ts) :
    Calls Try.prog 6 #[.agg #[.int .i64 n, .int .i64 s], .int .i64 l, sv, tv] w fun e w' => e = .returned (.bool true) ∧ Below w.heap.size w w' := by
  obtain ⟨B, hB⟩ : ∃ B, bx w n s = B := ⟨_, rfl⟩
  have HSZ : Hid (B.heap.size = w.heap.size + 1) := by show _ = _; rw [← hB]; exact bx_size w n s
  have HBX : Hid (∀ x, Below (w.heap.size + 1) (bx w n s) x → x.cell? ⟨w.heap.size, 0, none⟩ = some (.int .i64 n) ∧ x.cell? ⟨w.heap.size, 1, none⟩ = some (.int .i64 s)) := fun x hx => box2b hx
  have HS : Hid (∀ w', Below (w.heap.size + 1) (bx w n s) w' → SeesOps w' sv m os ∧ SeesT w' tv kt ts ∧ Below w.heap.size w w') := fun w' hb => by
    have := (bx_below w n s).trans (hb.mono (by omega)); exact ⟨hs.below this, ht.below this, this⟩
  obtain ⟨ao, cap0, _, _, rfl, hcap, hmax, _⟩ := id hs
  obtain ⟨at', capt, _, _, rfl, hcapt, _, _⟩ := id ht
  obtain ⟨q0, q1⟩ := unhide HBX B (by rw [hB]; exact Below.refl _ _)
  have HNIL := hide hnil
  clear hs ht hnil
  go_enter Try.func6, Try.ntmps6
  go_wp2_with (rw [hB])
  refine (new_ok B n s l h0 h1 h3 h4 h5).mono ?_
  rintro e w1 ⟨rfl, I1, hb1⟩
  clear q0 q1
  have hbx1 : Below (w.heap.size + 1) (bx w n s) w1 := by rw [hB, ← unhide HSZ]; exact hb1
  obtain ⟨q0, q1⟩ := unhide HBX w1 hbx1
  have HI1 := hide I1
  have HL1 := hide hbx1
  clear hb1 I1 hbx1
  go_wp2_with fail
  refine (new_ok w1 n s l h0 h1 h3 h4 h5).mono ?_
  rintro e w2 ⟨rfl, I2, hb2⟩
  have HI12 := hide ((unhide HI1).below hb2)
  have HI2 := hide I2
  have HL2 := hide ((unhide HL1).trans (hb2.mono (by have := (unhide HL1).size; simp at this; omega)))
  clear hb2 I2 q0 q1
  go_wp2_with fail
  refine (begun_any w2).mono ?_
  rintro e w3 ⟨rfl, hb3⟩
  have HI13 := hide ((unhide HI12).below hb3)
  have HI23 := hide ((unhide HI2).below hb3)
  have HL3 := hide ((unhide HL2).trans (hb3.mono (by have := (unhide HL2).size; simp at this; omega)))
  have hlt1 := (unhide HI1).lt
  have hlt2 := (unhide HI2).lt
  have hs3 := hb3.size
  have HHH : Hid (w.heap.size + 1 ≤ B.heap.size + 1 ∧ w.heap.size + 1 ≤ w1.heap.size + 1 ∧ B.heap.size + 1 ≠ w1.heap.size + 1 ∧ B.heap.size + 1 < w3.heap.size ∧ w1.heap.size + 1 < w3.heap.size) := by
    have := unhide HSZ; have := (unhide HL1).size; simp at this
    exact ⟨by omega, by omega, by omega, by omega, by omega⟩
  clear hb3 HI1 HI12 HI2 HL1 HL2 hlt1 hlt2 hs3
  generalize B.heap.size + 1 = p1 at HI13 HHH ⊢
  generalize w1.heap.size + 1 = p2 at HI23 HHH ⊢
  go_wp2_with (at_builtin; refine wpList_append_ops rfl _ _ rfl rfl _ m os rfl (unhide HS w3 (unhide HL3)).1 (unhide HNIL) hm ?_)
  intro ov w4 hown hb4
  have HT0 : Hid (Two w n s m p1 p2 (Bk.new n s l) os os ov 0 w4) := by
    have hH := unhide HHH
    refine ⟨(unhide HI13).below hb4, (unhide HI23).below hb4, ?_, (unhide HL3).trans (hb4.mono (by have := (unhide HL3).size; simp at this; omega)), hH.1, hH.2.1, hH.2.2.1, ?_⟩
    · obtain ⟨a, c, g, e, hc, hk⟩ := hown
      exact ⟨a, c, g, e, hc, fun h => ⟨(hk h).1, by have := (hk h).2.1; omega, (hk h).2.2⟩⟩
    · intro c k e hm0
      obtain ⟨a, c', g, e', hc, hk⟩ := hown
      have := hk hm0
      rw [e] at e'
      simp only [Value.slice.injEq] at e'
      rw [this.1] at e'
      simp only [Option.some.injEq, Addr.mk.injEq] at e'
      have := this.2.1
      omega
  obtain ⟨ao4, cap4, g4, rfl, hcap4, HK4⟩ := hown
  have HAO : Hid (0 < m → ao4 = some ⟨g4, 0, none⟩) := fun h => (HK4 h).1
  clear hb4 HK4 HI13 HI23 HL3 HHH
  have HO0 : Hid (Bk.new n s l).Ok := Bk.new_ok h0 h1 h3 h4 h5
  go_wp2
  go_loopw [49] (fun c x => AtSw w n s m p1 p2 (Bk.new n s l) os (.slice ao4 m cap4) c x) (fun c _ => m - (intOf c).toNat)
  case atStart => exact ⟨0, os, Nat.zero_le _, rfl, SameOps.refl _ _, unhide HT0⟩
  case round =>
    clear HT0
    obtain ⟨i, f', hi, rfl, hSa, T⟩ := hrel
    by_cases hlt : i < m
    · obtain rfl := unhide HAO (by omega)
      by_cases hkt : i < kt
      · obtain ⟨_, ⟨at2, capt2, tb, to, hv, _, hao, hct⟩, _⟩ := unhide HS wr T.lo
        simp only [Value.slice.injEq, true_and] at hv
        obtain ⟨rfl, rfl⟩ := hv
        obtain rfl := hao (by omega)
        obtain ⟨ct, ct0, ct1⟩ := hct i hkt
        obtain ⟨kk, hkk, hrem⟩ := tmod_nat (x := ts i) (m := m) ct0 (by omega)
        have hwx : IntKind.i64.wrap (ts i) = ts i := by rw [IntKind.wrap_i64]; omega
        have hwr : IntKind.i64.wrap (kk : Int) = kk := by rw [IntKind.wrap_i64]; omega
        have hi0 : (0 : Int) ≤ (i : Int) := by omega
        have him : (i : Int) < m := by omega
        have hit : (i : Int) < kt := by omega
        have hk0 : (0 : Int) ≤ (kk : Int) := by omega
        have hkm : (kk : Int) < m := by omega
        have hmz : (m : Int) ≠ 0 := by omega
        obtain ⟨ao5, cp5, g5, hv5, _, hx5⟩ := T.ow
        simp only [Value.slice.injEq, true_and] at hv5
        obtain ⟨e5, rfl⟩ := hv5
        obtain ⟨e6, _, h6, hf6⟩ := hx5 (by omega)
        rw [e6] at e5
        simp only [Option.some.injEq, Addr.mk.injEq, and_true] at e5
        subst e5
        have u0 : wr.cell? ⟨g4, i * 3, none⟩ = some (.int .i64 (f' i).act) := h6 i hlt 0 (by decide)
        have u1 : wr.cell? ⟨g4, i * 3 + 1, none⟩ = some (.int .i64 (f' i).who) := h6 i hlt 1 (by decide)
        have u2 : wr.cell? ⟨g4, i * 3 + 2, none⟩ = some (.int .i64 (f' i).slot) := h6 i hlt 2 (by decide)
        have v0 : wr.cell? ⟨g4, kk * 3, none⟩ = some (.int .i64 (f' kk).act) := h6 kk hkk 0 (by decide)
        have v1 : wr.cell? ⟨g4, kk * 3 + 1, none⟩ = some (.int .i64 (f' kk).who) := h6 kk hkk 1 (by decide)
        have v2 : wr.cell? ⟨g4, kk * 3 + 2, none⟩ = some (.int .i64 (f' kk).slot) := h6 kk hkk 2 (by decide)
        have HX : Hid (AtSw w n s m p1 p2 (Bk.new n s l) os (.slice (some ⟨g4, 0, none⟩) m cap4) (.int .i64 ((i : Int) + 1)) (put3 (put3 wr g4 i (f' kk)) g4 kk (f' i)).drew) :=
          ⟨i + 1, _, by omega, by simp, hSa.swap hlt hkk, (T.swap hlt hkk).below (Below.refl _ _).drew⟩
        unfold put3 at HX
        have z : ∀ (y : World) (o : Nat) (v : Value), y.cell? ⟨g4, kk * 3 + o, none⟩ = some v → (y.setCell ⟨g4, i * 3 + o, none⟩ v).cell? ⟨g4, kk * 3 + o, none⟩ = some v := fun y o v hy => by
          by_cases c : i = kk
          · subst c; exact cs_same hy
          · rw [cs_other (addr_ne (Or.inr (by omega)))]; exact hy
        have z0 := z wr 0 _ v0
        have z1 := z (wr.setCell ⟨g4, i * 3, none⟩ (.int .i64 (f' kk).act)) 1 (.int .i64 (f' kk).who) (by rw [cs_other (addr_ne (Or.inr (by omega)))]; exact v1)
        have z2 := z ((wr.setCell ⟨g4, i * 3, none⟩ (.int .i64 (f' kk).act)).setCell ⟨g4, i * 3 + 1, none⟩ (.int .i64 (f' kk).who)) 2 (.int .i64 (f' kk).slot) (by rw [cs_other (addr_ne (Or.inr (by omega))), cs_other (addr_ne (Or.inr (by omega)))]; exact v2)
        simp only [Nat.add_zero] at z0
        clear hSa T hx5 h6 e6 z
        go_wp2
        go_region
        go_wp2
        go_roundw
        case rel => exact unhide HX
        case measure => simp [intOf]; omega
      · have HX : Hid (AtSw w n s m p1 p2 (Bk.new n s l) os (.slice (some ⟨g4, 0, none⟩) m cap4) (.int .i64 ((i : Int) + 1)) wr) := ⟨i + 1, f', by omega, by simp, hSa, T⟩
        clear hSa T
        go_wp2
        go_roundw
        case rel => exact unhide HX
        case measure => simp [intOf]; omega
    · have HTL : Hid (AtTell w n s m p1 p2 (Bk.new n s l) os f' (.slice ao4 m cap4) (.int .i64 0) wr) := ⟨0, Nat.zero_le _, rfl, T⟩
      have HSA := hide hSa
      clear hSa T
      go_wp2
      go_loopw [81] (fun c x => AtTell w n s m p1 p2 (Bk.new n s l) os f' (.slice ao4 m cap4) c x) (fun c _ => m - (intOf c).toNat)
      case atStart => exact unhide HTL
      case round =>
        clear HTL
        obtain ⟨t, ht, rfl, T⟩ := hrel
        by_cases hlt2 : t < m
        · obtain ⟨⟨ao', cap', gb, ob, hv, _, _, hao, hcl⟩, _, _⟩ := unhide HS wr T.lo
          simp only [Value.slice.injEq, true_and] at hv
          obtain ⟨rfl, rfl⟩ := hv
          obtain rfl := hao (by omega)
          obtain rfl := unhide HAO (by omega)
          have ht0 : (0 : Int) ≤ (t : Int) := by omega
          have htm : (t : Int) < m := by omega
          have hc := hcl t hlt2
          have c0 : wr.drew.cell? ⟨gb, ob + t * 3, none⟩ = some (.int .i64 (os t).act) := hc 0 (by decide)
          have c1 : wr.drew.cell? ⟨gb, ob + t * 3 + 1, none⟩ = some (.int .i64 (os t).who) := hc 1 (by decide)
          have c2 : wr.drew.cell? ⟨gb, ob + t * 3 + 2, none⟩ = some (.int .i64 (os t).slot) := hc 2 (by decide)
          have HT1 := hide (told_any (T.below (Below.refl _ _).drew).i1 (tellTo_ok (unhide HO0) os t) (os t).who ((os t).act != 3) (os t).slot)
          have HT := hide (T.below (Below.refl _ _).drew)
          have HGB : Hid (gb < wr.heap.size ∧ gb ≠ p1) := by
            have a1 := World.block_lt_of_cell? wr _ (hc 0 (by decide) : wr.cell? ⟨gb, ob + t * 3 + 0, none⟩ = some (.int .i64 (os t).act))
            refine ⟨a1, ?_⟩
            have a2 : w.heap.size + 1 ≤ p1 := T.a1
            have a3 := ((unhide HS) (bx w n s) (Below.refl _ _)).1
            obtain ⟨ao7, cp7, gb7, ob7, hv7, _, _, hao7, hcl7⟩ := a3
            simp only [Value.slice.injEq, true_and] at hv7
            obtain ⟨e7, _⟩ := hv7
            have e8 := hao7 (by omega)
            rw [← e7] at e8
            simp only [Option.some.injEq, Addr.mk.injEq, and_true] at e8
            have a4 := World.block_lt_of_cell? (bx w n s) _ (hcl7 0 (by omega) 0 (by decide) : (bx w n s).cell? ⟨gb7, ob7 + 0 * 3 + 0, none⟩ = some (.int .i64 (os 0).act))
            simp at a4
            omega
          clear T hcl hc
          go_wp2
          refine wp_region_held_drew (S := fun x => x.cell? ⟨gb, ob + t * 3, none⟩ = some (.int .i64 (os t).act) ∧ x.cell? ⟨gb, ob + t * 3 + 1, none⟩ = some (.int .i64 (os t).who) ∧ x.cell? ⟨gb, ob + t * 3 + 2, none⟩ = some (.int .i64 (os t).slot)) (by kernel_rfl) ⟨c0, c1, c2⟩ (fun hHeld => ?_)
          refine wpAnyH_take (i := 0) (v := ?v1x0) rfl (by kernel_rfl) (by kernel_rfl) (by kernel_rfl) (fun _ _ _ h => h) (Or.inl ⟨by rfl, ?hy1x0⟩) (by assumption) ?rest1x0
          case hy1x0 => intro w hSw; obtain ⟨s0, s1, s2⟩ := hSw; go_simp <;> with_reducible rfl
          simp only [Act.put, List.getElem_toArray, List.getElem_cons_zero, List.setIfInBounds_toArray, List.set_cons_zero, List.set_cons_succ]
          refine wpAnyH_take (i := 1) (v := ?v2x1) rfl (by kernel_rfl) (by kernel_rfl) (by kernel_rfl) (fun _ _ _ h => h) (Or.inl ⟨by rfl, ?hy2x1⟩) (by assumption) ?rest2x1
          case hy2x1 => intro w hSw; obtain ⟨s0, s1, s2⟩ := hSw; go_simp <;> with_reducible rfl
          simp only [Act.put, List.getElem_toArray, List.getElem_cons_zero, List.getElem_cons_succ, List.setIfInBounds_toArray, List.set_cons_zero, List.set_cons_succ]
          refine wpAnyH_take (i := 2) (v := ?v3x2) rfl (by kernel_rfl) (by kernel_rfl) (by kernel_rfl) (fun _ _ _ h => h) (Or.inl ⟨by rfl, ?hy3x2⟩) (by assumption) ?rest3x2
          case hy3x2 => intro w hSw; obtain ⟨s0, s1, s2⟩ := hSw; go_simp <;> with_reducible rfl
          simp only [Act.put, List.getElem_toArray, List.getElem_cons_zero, List.getElem_cons_succ, List.setIfInBounds_toArray, List.set_cons_zero, List.set_cons_succ]
          refine wpAnyH_take (i := 3) (v := ?v4x3) rfl (by kernel_rfl) (by kernel_rfl) (by kernel_rfl) (fun _ _ _ h => h) (Or.inl ⟨by rfl, ?hy4x3⟩) (by assumption) ?rest4x3
          case hy4x3 => intro w hSw; obtain ⟨s0, s1, s2⟩ := hSw; go_simp <;> with_reducible rfl
          simp only [Act.put, List.getElem_toArray, List.getElem_cons_zero, List.getElem_cons_succ, List.setIfInBounds_toArray, List.set_cons_zero, List.set_cons_succ]
          refine wpAnyH_take (i := 4) (v := ?v5x4) rfl (by kernel_rfl) (by kernel_rfl) (by kernel_rfl) (fun _ _ _ h => h) (Or.inl ⟨by rfl, ?hy5x4⟩) (by assumption) ?rest5x4
          case hy5x4 => intro w hSw; obtain ⟨s0, s1, s2⟩ := hSw; go_simp <;> with_reducible rfl
          simp only [Act.put, List.getElem_toArray, List.getElem_cons_zero, List.getElem_cons_succ, List.setIfInBounds_toArray, List.set_cons_zero, List.set_cons_succ]
          refine wpAnyH_take (i := 5) (v := ?v6x5) rfl (by kernel_rfl) (by kernel_rfl) (by kernel_rfl) (fun _ _ _ h => h) (Or.inl ⟨by rfl, ?hy6x5⟩) (by assumption) ?rest6x5
          case hy6x5 => intro w hSw; obtain ⟨s0, s1, s2⟩ := hSw; go_simp <;> with_reducible rfl
          simp only [Act.put, List.getElem_toArray, List.getElem_cons_zero, List.getElem_cons_succ, List.setIfInBounds_toArray, List.set_cons_zero, List.set_cons_succ]
          refine wpAnyH_take (i := 6) (v := ?v7x6) rfl (by kernel_rfl) (by kernel_rfl) (by kernel_rfl) (fun _ _ _ h => h) (Or.inl ⟨by rfl, ?hy7x6⟩) (by assumption) ?rest7x6
          case hy7x6 => intro w hSw; obtain ⟨s0, s1, s2⟩ := hSw; go_simp <;> with_reducible rfl
          simp only [Act.put, List.getElem_toArray, List.getElem_cons_zero, List.getElem_cons_succ, List.setIfInBounds_toArray, List.set_cons_zero, List.set_cons_succ]
          refine wpAnyH_take (i := 7) (v := ?v8x7) rfl (by kernel_rfl) (by kernel_rfl) (by kernel_rfl) (fun _ _ _ h => h) (Or.inl ⟨by rfl, ?hy8x7⟩) (by assumption) ?rest8x7
          case hy8x7 => intro w hSw; obtain ⟨s0, s1, s2⟩ := hSw; go_simp <;> with_reducible rfl
          simp only [Act.put, List.getElem_toArray, List.getElem_cons_zero, List.getElem_cons_succ, List.setIfInBounds_toArray, List.set_cons_zero, List.set_cons_succ]
          refine wpAnyH_take (i := 8) (v := ?v9x8) rfl (by kernel_rfl) (by kernel_rfl) (by kernel_rfl) (fun _ _ _ h => h) (Or.inl ⟨by rfl, ?hy9x8⟩) (by assumption) ?rest9x8
          case hy9x8 => intro w hSw; obtain ⟨s0, s1, s2⟩ := hSw; go_simp <;> with_reducible rfl
          simp only [Act.put, List.getElem_toArray, List.getElem_cons_zero, List.getElem_cons_succ, List.setIfInBounds_toArray, List.set_cons_zero, List.set_cons_succ]
          refine wpAnyH_take (i := 9) (v := ?v10x9) rfl (by kernel_rfl) (by kernel_rfl) (by kernel_rfl) (fun _ _ _ h => h) (Or.inl ⟨by rfl, ?hy10x9⟩) (by assumption) ?rest10x9
          case hy10x9 => intro w hSw; obtain ⟨s0, s1, s2⟩ := hSw; go_simp <;> with_reducible rfl
          simp only [Act.put, List.getElem_toArray, List.getElem_cons_zero, List.getElem_cons_succ, List.setIfInBounds_toArray, List.set_cons_zero, List.set_cons_succ]
          refine wpAnyH_take (i := 10) (v := ?v11x10) rfl (by kernel_rfl) (by kernel_rfl) (by kernel_rfl) (fun _ _ _ h => h) (Or.inl ⟨by rfl, ?hy11x10⟩) (by assumption) ?rest11x10
          case hy11x10 => intro w hSw; obtain ⟨s0, s1, s2⟩ := hSw; go_simp <;> with_reducible rfl
          simp only [Act.put, List.getElem_toArray, List.getElem_cons_zero, List.getElem_cons_succ, List.setIfInBounds_toArray, List.set_cons_zero, List.set_cons_succ]
          refine wpAnyH_take (i := 11) (v := ?v12x11) rfl (by kernel_rfl) (by kernel_rfl) (by kernel_rfl) (fun _ _ _ h => h) (Or.inl ⟨by rfl, ?hy12x11⟩) (by assumption) ?rest12x11
          case hy12x11 => intro w hSw; obtain ⟨s0, s1, s2⟩ := hSw; go_simp <;> with_reducible rfl
          simp only [Act.put, List.getElem_toArray, List.getElem_cons_zero, List.getElem_cons_succ, List.setIfInBounds_toArray, List.set_cons_zero, List.set_cons_succ]
          refine wpAnyH_take (i := 12) (v := ?v13x12) rfl (by kernel_rfl) (by kernel_rfl) (by kernel_rfl) (fun _ _ _ h => h) (Or.inl ⟨by rfl, ?hy13x12⟩) (by assumption) ?rest13x12
          case hy13x12 => intro w hSw; obtain ⟨s0, s1, s2⟩ := hSw; go_simp <;> with_reducible rfl
          simp only [Act.put, List.getElem_toArray, List.getElem_cons_zero, List.getElem_cons_succ, List.setIfInBounds_toArray, List.set_cons_zero, List.set_cons_succ]
          refine wpAnyH_take (i := 13) (v := ?v14x13) rfl (by kernel_rfl) (by kernel_rfl) (by kernel_rfl) (fun _ _ _ h => h) (Or.inl ⟨by rfl, ?hy14x13⟩) (by assumption) ?rest14x13
          case hy14x13 => intro w hSw; obtain ⟨s0, s1, s2⟩ := hSw; go_simp <;> with_reducible rfl
          simp only [Act.put, List.getElem_toArray, List.getElem_cons_zero, List.getElem_cons_succ, List.setIfInBounds_toArray, List.set_cons_zero, List.set_cons_succ]
          refine wpAnyH_take (i := 14) (v := ?v15x14) rfl (by kernel_rfl) (by kernel_rfl) (by kernel_rfl) (fun _ _ _ h => h) (Or.inl ⟨by rfl, ?hy15x14⟩) (by assumption) ?rest15x14
          case hy15x14 => intro w hSw; obtain ⟨s0, s1, s2⟩ := hSw; go_simp <;> with_reducible rfl
          simp only [Act.put, List.getElem_toArray, List.getElem_cons_zero, List.getElem_cons_succ, List.setIfInBounds_toArray, List.set_cons_zero, List.set_cons_succ]
          refine wpAnyH_take (i := 15) (v := ?v16x15) rfl (by kernel_rfl) (by kernel_rfl) (by kernel_rfl) (fun _ _ _ h => h) (Or.inl ⟨by rfl, ?hy16x15⟩) (by assumption) ?rest16x15
          case hy16x15 => intro w hSw; obtain ⟨s0, s1, s2⟩ := hSw; go_simp <;> with_reducible rfl
          simp only [Act.put, List.getElem_toArray, List.getElem_cons_zero, List.getElem_cons_succ, List.setIfInBounds_toArray, List.set_cons_zero, List.set_cons_succ]
          refine wpAnyH_take (i := 16) (v := ?v17x16) rfl (by kernel_rfl) (by kernel_rfl) (by kernel_rfl) (fun _ _ _ h => h) (Or.inl ⟨by rfl, ?hy17x16⟩) (by assumption) ?rest17x16
          case hy17x16 => intro w hSw; obtain ⟨s0, s1, s2⟩ := hSw; go_simp <;> with_reducible rfl
          simp only [Act.put, List.getElem_toArray, List.getElem_cons_zero, List.getElem_cons_succ, List.setIfInBounds_toArray, List.set_cons_zero, List.set_cons_succ]
          refine wpAnyH_ready (rs := [17]) (by kernel_rfl) (by simp) ?_
          refine AllReadyH.cons rfl (fun K hK => ?_) AllReadyH.nil
          go_simp
          refine (unhide HT1).mono ?_
          rintro e y1 ⟨rfl, J1, u1⟩
          refine hK _ _ ⟨(u1.cell (p := ⟨gb, ob + t * 3, none⟩) (unhide HGB).1 (unhide HGB).2).trans c0, (u1.cell (p := ⟨gb, ob + t * 3 + 1, none⟩) (unhide HGB).1 (unhide HGB).2).trans c1, (u1.cell (p := ⟨gb, ob + t * 3 + 2, none⟩) (unhide HGB).1 (unhide HGB).2).trans c2⟩ ?_
          clear hK hHeld
          have HJ1 := hide J1
          have HU1 := hide u1
          clear J1 u1 c0 c1 c2
          intro hHeld
          refine wpAnyH_done (by kernel_rfl) ?_ _
          have HI2 := hide ((unhide HT).i2.upd (unhide HU1) (Nat.le_refl _) (fun c => (unhide HT).ne c.symm))
          have HOW := hide ((unhide HT).ow.upd (unhide HU1) (fun c k e hm0 => ((unhide HT).n1 c k e hm0).1))
          have HLO : Hid (Below (w.heap.size + 1) (bx w n s) y1) := (unhide HT).lo.trans ((unhide HU1).below (by have := (unhide HT).lo.size; simp at this; exact this) (fun k hk c => by have := (unhide HT).a1; simp only [One] at c; omega))
          have HT2 := hide (told_any (unhide HI2).drew (tellTo_ok (unhide HO0) f' t) (f' t).who ((f' t).act != 3) (f' t).slot)
          obtain ⟨ao5, cp5, g5, hv5, _, hx5⟩ := unhide HOW
          simp only [Value.slice.injEq, true_and] at hv5
          obtain ⟨e5, rfl⟩ := hv5
          obtain ⟨e6, _, h6, hf6⟩ := hx5 (by omega)
          rw [e6] at e5
          simp only [Option.some.injEq, Addr.mk.injEq, and_true] at e5
          subst e5
          have d0 : y1.drew.cell? ⟨g4, t * 3, none⟩ = some (.int .i64 (f' t).act) := h6 t hlt2 0 (by decide)
          have d1 : y1.drew.cell? ⟨g4, t * 3 + 1, none⟩ = some (.int .i64 (f' t).who) := h6 t hlt2 1 (by decide)
          have d2 : y1.drew.cell? ⟨g4, t * 3 + 2, none⟩ = some (.int .i64 (f' t).slot) := h6 t hlt2 2 (by decide)
          have HG4 : Hid (g4 < y1.heap.size ∧ g4 ≠ p2) := ⟨World.block_lt_of_cell? y1 ⟨g4, t * 3, none⟩ (u := .int .i64 (f' t).act) d0, ((unhide HT).n1 _ g4 rfl (by omega)).2⟩
          clear hx5 h6 e6 hf6
          go_wp2
          refine wp_region_held_drew (S := fun x => x.cell? ⟨g4, t * 3, none⟩ = some (.int .i64 (f' t).act) ∧ x.cell? ⟨g4, t * 3 + 1, none⟩ = some (.int .i64 (f' t).who) ∧ x.cell? ⟨g4, t * 3 + 2, none⟩ = some (.int .i64 (f' t).slot)) (by kernel_rfl) ⟨d0, d1, d2⟩ (fun hHeld => ?_)
          refine wpAnyH_take (i := 0) (v := ?v18x0) rfl (by kernel_rfl) (by kernel_rfl) (by kernel_rfl) (fun _ _ _ h => h) (Or.inl ⟨by rfl, ?hy18x0⟩) (by assumption) ?rest18x0
          case hy18x0 => intro w hSw; obtain ⟨s0, s1, s2⟩ := hSw; go_simp <;> with_reducible rfl
          simp only [Act.put, List.getElem_toArray, List.getElem_cons_zero, List.setIfInBounds_toArray, List.set_cons_zero, List.set_cons_succ]
          refine wpAnyH_take (i := 1) (v := ?v19x1) rfl (by kernel_rfl) (by kernel_rfl) (by kernel_rfl) (fun _ _ _ h => h) (Or.inl ⟨by rfl, ?hy19x1⟩) (by assumption) ?rest19x1
          case hy19x1 => intro w hSw; obtain ⟨s0, s1, s2⟩ := hSw; go_simp <;> with_reducible rfl
          simp only [Act.put, List.getElem_toArray, List.getElem_cons_zero, List.getElem_cons_succ, List.setIfInBounds_toArray, List.set_cons_zero, List.set_cons_succ]
          refine wpAnyH_take (i := 2) (v := ?v20x2) rfl (by kernel_rfl) (by kernel_rfl) (by kernel_rfl) (fun _ _ _ h => h) (Or.inl ⟨by rfl, ?hy20x2⟩) (by assumption) ?rest20x2
          case hy20x2 => intro w hSw; obtain ⟨s0, s1, s2⟩ := hSw; go_simp <;> with_reducible rfl
          simp only [Act.put, List.getElem_toArray, List.getElem_cons_zero, List.getElem_cons_succ, List.setIfInBounds_toArray, List.set_cons_zero, List.set_cons_succ]
          refine wpAnyH_take (i := 3) (v := ?v21x3) rfl (by kernel_rfl) (by kernel_rfl) (by kernel_rfl) (fun _ _ _ h => h) (Or.inl ⟨by rfl, ?hy21x3⟩) (by assumption) ?rest21x3
          case hy21x3 => intro w hSw; obtain ⟨s0, s1, s2⟩ := hSw; go_simp <;> with_reducible rfl
          simp only [Act.put, List.getElem_toArray, List.getElem_cons_zero, List.getElem_cons_succ, List.setIfInBounds_toArray, List.set_cons_zero, List.set_cons_succ]
          refine wpAnyH_take (i := 4) (v := ?v22x4) rfl (by kernel_rfl) (by kernel_rfl) (by kernel_rfl) (fun _ _ _ h => h) (Or.inl ⟨by rfl, ?hy22x4⟩) (by assumption) ?rest22x4
          case hy22x4 => intro w hSw; obtain ⟨s0, s1, s2⟩ := hSw; go_simp <;> with_reducible rfl
          simp only [Act.put, List.getElem_toArray, List.getElem_cons_zero, List.getElem_cons_succ, List.setIfInBounds_toArray, List.set_cons_zero, List.set_cons_succ]
          refine wpAnyH_take (i := 5) (v := ?v23x5) rfl (by kernel_rfl) (by kernel_rfl) (by kernel_rfl) (fun _ _ _ h => h) (Or.inl ⟨by rfl, ?hy23x5⟩) (by assumption) ?rest23x5
          case hy23x5 => intro w hSw; obtain ⟨s0, s1, s2⟩ := hSw; go_simp <;> with_reducible rfl
          simp only [Act.put, List.getElem_toArray, List.getElem_cons_zero, List.getElem_cons_succ, List.setIfInBounds_toArray, List.set_cons_zero, List.set_cons_succ]
          refine wpAnyH_take (i := 6) (v := ?v24x6) rfl (by kernel_rfl) (by kernel_rfl) (by kernel_rfl) (fun _ _ _ h => h) (Or.inl ⟨by rfl, ?hy24x6⟩) (by assumption) ?rest24x6
          case hy24x6 => intro w hSw; obtain ⟨s0, s1, s2⟩ := hSw; go_simp <;> with_reducible rfl
          simp only [Act.put, List.getElem_toArray, List.getElem_cons_zero, List.getElem_cons_succ, List.setIfInBounds_toArray, List.set_cons_zero, List.set_cons_succ]
          refine wpAnyH_take (i := 7) (v := ?v25x7) rfl (by kernel_rfl) (by kernel_rfl) (by kernel_rfl) (fun _ _ _ h => h) (Or.inl ⟨by rfl, ?hy25x7⟩) (by assumption) ?rest25x7
          case hy25x7 => intro w hSw; obtain ⟨s0, s1, s2⟩ := hSw; go_simp <;> with_reducible rfl
          simp only [Act.put, List.getElem_toArray, List.getElem_cons_zero, List.getElem_cons_succ, List.setIfInBounds_toArray, List.set_cons_zero, List.set_cons_succ]
          refine wpAnyH_take (i := 8) (v := ?v26x8) rfl (by kernel_rfl) (by kernel_rfl) (by kernel_rfl) (fun _ _ _ h => h) (Or.inl ⟨by rfl, ?hy26x8⟩) (by assumption) ?rest26x8
          case hy26x8 => intro w hSw; obtain ⟨s0, s1, s2⟩ := hSw; go_simp <;> with_reducible rfl
          simp only [Act.put, List.getElem_toArray, List.getElem_cons_zero, List.getElem_cons_succ, List.setIfInBounds_toArray, List.set_cons_zero, List.set_cons_succ]
          refine wpAnyH_take (i := 9) (v := ?v27x9) rfl (by kernel_rfl) (by kernel_rfl) (by kernel_rfl) (fun _ _ _ h => h) (Or.inl ⟨by rfl, ?hy27x9⟩) (by assumption) ?rest27x9
          case hy27x9 => intro w hSw; obtain ⟨s0, s1, s2⟩ := hSw; go_simp <;> with_reducible rfl
          simp only [Act.put, List.getElem_toArray, List.getElem_cons_zero, List.getElem_cons_succ, List.setIfInBounds_toArray, List.set_cons_zero, List.set_cons_succ]
          refine wpAnyH_take (i := 10) (v := ?v28x10) rfl (by kernel_rfl) (by kernel_rfl) (by kernel_rfl) (fun _ _ _ h => h) (Or.inl ⟨by rfl, ?hy28x10⟩) (by assumption) ?rest28x10
          case hy28x10 => intro w hSw; obtain ⟨s0, s1, s2⟩ := hSw; go_simp <;> with_reducible rfl
          simp only [Act.put, List.getElem_toArray, List.getElem_cons_zero, List.getElem_cons_succ, List.setIfInBounds_toArray, List.set_cons_zero, List.set_cons_succ]
          refine wpAnyH_take (i := 11) (v := ?v29x11) rfl (by kernel_rfl) (by kernel_rfl) (by kernel_rfl) (fun _ _ _ h => h) (Or.inl ⟨by rfl, ?hy29x11⟩) (by assumption) ?rest29x11
          case hy29x11 => intro w hSw; obtain ⟨s0, s1, s2⟩ := hSw; go_simp <;> with_reducible rfl
          simp only [Act.put, List.getElem_toArray, List.getElem_cons_zero, List.getElem_cons_succ, List.setIfInBounds_toArray, List.set_cons_zero, List.set_cons_succ]
          refine wpAnyH_take (i := 12) (v := ?v30x12) rfl (by kernel_rfl) (by kernel_rfl) (by kernel_rfl) (fun _ _ _ h => h) (Or.inl ⟨by rfl, ?hy30x12⟩) (by assumption) ?rest30x12
          case hy30x12 => intro w hSw; obtain ⟨s0, s1, s2⟩ := hSw; go_simp <;> with_reducible rfl
          simp only [Act.put, List.getElem_toArray, List.getElem_cons_zero, List.getElem_cons_succ, List.setIfInBounds_toArray, List.set_cons_zero, List.set_cons_succ]
          refine wpAnyH_take (i := 13) (v := ?v31x13) rfl (by kernel_rfl) (by kernel_rfl) (by kernel_rfl) (fun _ _ _ h => h) (Or.inl ⟨by rfl, ?hy31x13⟩) (by assumption) ?rest31x13
          case hy31x13 => intro w hSw; obtain ⟨s0, s1, s2⟩ := hSw; go_simp <;> with_reducible rfl
          simp only [Act.put, List.getElem_toArray, List.getElem_cons_zero, List.getElem_cons_succ, List.setIfInBounds_toArray, List.set_cons_zero, List.set_cons_succ]
          refine wpAnyH_take (i := 14) (v := ?v32x14) rfl (by kernel_rfl) (by kernel_rfl) (by kernel_rfl) (fun _ _ _ h => h) (Or.inl ⟨by rfl, ?hy32x14⟩) (by assumption) ?rest32x14
          case hy32x14 => intro w hSw; obtain ⟨s0, s1, s2⟩ := hSw; go_simp <;> with_reducible rfl
          simp only [Act.put, List.getElem_toArray, List.getElem_cons_zero, List.getElem_cons_succ, List.setIfInBounds_toArray, List.set_cons_zero, List.set_cons_succ]
          refine wpAnyH_take (i := 15) (v := ?v33x15) rfl (by kernel_rfl) (by kernel_rfl) (by kernel_rfl) (fun _ _ _ h => h) (Or.inl ⟨by rfl, ?hy33x15⟩) (by assumption) ?rest33x15
          case hy33x15 => intro w hSw; obtain ⟨s0, s1, s2⟩ := hSw; go_simp <;> with_reducible rfl
          simp only [Act.put, List.getElem_toArray, List.getElem_cons_zero, List.getElem_cons_succ, List.setIfInBounds_toArray, List.set_cons_zero, List.set_cons_succ]
          refine wpAnyH_take (i := 16) (v := ?v34x16) rfl (by kernel_rfl) (by kernel_rfl) (by kernel_rfl) (fun _ _ _ h => h) (Or.inl ⟨by rfl, ?hy34x16⟩) (by assumption) ?rest34x16
          case hy34x16 => intro w hSw; obtain ⟨s0, s1, s2⟩ := hSw; go_simp <;> with_reducible rfl
          simp only [Act.put, List.getElem_toArray, List.getElem_cons_zero, List.getElem_cons_succ, List.setIfInBounds_toArray, List.set_cons_zero, List.set_cons_succ]
          refine wpAnyH_ready (rs := [17]) (by kernel_rfl) (by simp) ?_
          refine AllReadyH.cons rfl (fun K hK => ?_) AllReadyH.nil
          go_simp
          refine (unhide HT2).mono ?_
          rintro e y2 ⟨rfl, J2, u2⟩
          refine hK _ _ ⟨(u2.cell (p := ⟨g4, t * 3, none⟩) (unhide HG4).1 (unhide HG4).2).trans d0, (u2.cell (p := ⟨g4, t * 3 + 1, none⟩) (unhide HG4).1 (unhide HG4).2).trans d1, (u2.cell (p := ⟨g4, t * 3 + 2, none⟩) (unhide HG4).1 (unhide HG4).2).trans d2⟩ ?_
          clear hK hHeld
          have HJ2 := hide J2
          have HU2 := hide u2
          clear J2 u2 d0 d1 d2
          intro hHeld
          refine wpAnyH_done (by kernel_rfl) ?_ _
          have HX : Hid (AtTell w n s m p1 p2 (Bk.new n s l) os f' (.slice (some ⟨g4, 0, none⟩) m cap4) (.int .i64 ((t : Int) + 1)) y2) := by
            have T := unhide HT
            refine ⟨t + 1, by omega, by simp, (unhide HJ1).drew.upd (unhide HU2) (Nat.le_refl _) (fun c => T.ne c), unhide HJ2, ?_, (unhide HLO).drew.trans ((unhide HU2).below (by have := (unhide HLO).size; simp at this; exact this) (fun k hk c => by have := T.a2; simp only [One] at c; omega)), T.a1, T.a2, T.ne, T.n1⟩
            exact ((unhide HOW).upd (P := fun _ => False) (Upd.of (Below.refl _ _).drew) (fun _ _ _ _ c => c)).upd (unhide HU2) (fun c k e hm0 => (T.n1 c k e hm0).2)
          clear HJ1 HU1 HJ2 HU2 HI2 HOW HLO HT HT1 HT2
          go_wp2
          go_roundw
          case rel => exact unhide HX
          case measure => simp [intOf]; omega
        · obtain rfl : t = m := by omega
          have HQ : Hid (AtEq w n s t p1 p2 (Bk.new n s l) os f' (.slice ao4 t cap4) (.int .i64 0) wr) := ⟨0, Nat.zero_le _, rfl, T⟩
          obtain ⟨q0, q1⟩ := unhide HBX wr T.lo
          clear T
          go_wp2
          go_loopw [123] (fun c x => AtEq w n s t p1 p2 (Bk.new n s l) os f' (.slice ao4 t cap4) c x) (fun c _ => n - (intOf c).toNat)
          case atStart => exact unhide HQ
          case round =>
            clear HQ q0 q1
            obtain ⟨k, hk, rfl, T⟩ := hrel
            have HE : Hid (∀ j, (tellTo (Bk.new n s l) os t).lk j = (tellTo (Bk.new n s l) f' t).lk j) := fun j => (tellTo_same (unhide HO0) (unhide HSA) j).symm
            have N1 := tellTo_n (unhide HO0) os t
            have N2 := tellTo_n (unhide HO0) f' t
            by_cases hkn : k < n
            · have HA := hide (like_yes T.i1 (tellTo_ok (unhide HO0) os t) k)
              have HB' := hide (like_yes T.i2 (tellTo_ok (unhide HO0) f' t) k)
              rw [Bk.like_nat (by rw [N1.1]; exact hkn), unhide HE k] at HA
              rw [Bk.like_nat (by rw [N2.1]; exact hkn)] at HB'
              have HX : Hid (AtEq w n s t p1 p2 (Bk.new n s l) os f' (.slice ao4 t cap4) (.int .i64 ((k : Int) + 1)) wr) := ⟨k + 1, by omega, by simp, T⟩
              generalize (tellTo (Bk.new n s l) f' t).lk k = z at HA HB'
              clear T N1 N2 HE
              go_wp2_with fail
              refine (unhide HA).mono ?_
              rintro e w' ⟨rfl, rfl⟩
              go_wp2_with fail
              refine (unhide HB').mono ?_
              rintro e w' ⟨rfl, rfl⟩
              go_wp2
              go_roundw
              case rel => exact unhide HX
              case measure => simp [intOf]; omega
            · have HA := hide (agreed_yes T.i1 (tellTo_ok (unhide HO0) os t))
              have ea : (tellTo (Bk.new n s l) os t).agreed = (tellTo (Bk.new n s l) f' t).agreed := by
                unfold Bk.agreed; rw [N1.1, N2.1]; exact agr_congr fun j _ => unhide HE j
              rw [ea] at HA
              have HT := hide T
              clear T N1 N2 HE ea
              go_wp2_with fail
              refine (unhide HA).mono ?_
              rintro e w6 ⟨rfl, b6⟩
              have HB' := hide (agreed_yes ((unhide HT).below b6).i2 (tellTo_ok (unhide HO0) f' t))
              have HT6 := hide ((unhide HT).below b6)
              clear b6
              generalize (tellTo (Bk.new n s l) f' t).agreed = z at HB' ⊢
              go_wp2_with fail
              refine (unhide HB').mono ?_
              rintro e w7 ⟨rfl, b7⟩
              have HF := hide ((unhide HS w7 ((unhide HT6).below b7).lo).2.2)
              clear b7
              go_wp2
              go_ret
              exact ⟨ret_bool (by simp), unhide HF⟩
end Go.Proofs.Ytgehhoddmmjmjaa
