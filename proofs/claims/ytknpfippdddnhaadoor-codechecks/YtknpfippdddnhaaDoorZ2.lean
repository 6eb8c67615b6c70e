/- What can be reached, as CodeReach asks for it; slices.ContainsFunc of its closure. -/
import Derived.Test.YtknpfippdddnhaaDoorZ1
namespace Go.Proofs.YtknpfippdddnhaaDoor
open Go.RowKit Go.Shelf
set_option maxRecDepth 100000

theorem rch_ok {l : List Int} (hby : Byt l) (h : (dec l).2 = 0) {i : Nat} (hr : Rch l i) : Ok l i := by
  induction hr with
  | zero => exact ok_zero h
  | step _ hp hq ih => exact (ok_next hby h hp ih hq).2
theorem mem_rcN {C : Nat → Bool} {j : Nat} {x : Int} : x ∈ rcN C j ↔ ∃ i : Nat, i < j ∧ C i = true ∧ x = i := by
  unfold rcN
  simp only [List.mem_map, List.mem_filter, List.mem_range]
  constructor
  · rintro ⟨i, ⟨h1, h2⟩, rfl⟩
    exact ⟨i, h1, h2, rfl⟩
  · rintro ⟨i, h1, h2, rfl⟩
    exact ⟨i, ⟨h1, h2⟩, rfl⟩
theorem rcN_rises (C : Nat → Bool) (j : Nat) : (rcN C j).Pairwise (· < ·) := by
  unfold rcN
  rw [List.pairwise_map]
  refine (List.pairwise_lt_range.filter _).imp ?_
  intro a b h
  omega
/-- An instruction behind which a run goes on. -/
def goes (x : Ins) : Prop := x.op ≠ 0 ∧ x.op ≠ 22 ∧ x.op ≠ 25
/-- What CodeReach asks of the instructions L and of what is reached, R. -/
structure Shut (l : List Int) (L : List Ins) (R : List Int) : Prop where
  ops : ∀ x ∈ L, 0 ≤ x.op ∧ x.op < 28 ∧ 0 ≤ x.ad ∧ x.ad < 512
  next : ∀ x ∈ L, x.ad ∈ R → goes x → x.ad + sz x.op < l.length → x.ad + sz x.op ∈ R
  jump : ∀ x ∈ L, x.ad ∈ R → (x.op = 22 ∨ x.op = 23) → x.im ∈ R
  rises : R.Pairwise (· < ·)
  own : ∀ a ∈ R, ∃ x ∈ L, x.ad = a
  first : ∃ R', R = 0 :: R'
theorem shut_of {l : List Int} (hby : Byt l) (h : (dec l).2 = 0) (hl : (dec l).1 ≠ []) {C : Nat → Bool} (hC : ∀ i, C i = true ↔ Rch l i ∧ i < l.length) : Shut l (dec l).1 (rcN C 512) := by
  obtain ⟨h512, hw, ht⟩ := dec_ok h
  obtain ⟨hf1, hf⟩ := wk_facts _ 0 (Nat.le_refl _) (Nat.zero_le _) hw
  have mem : ∀ i : Nat, (i : Int) ∈ rcN C 512 ↔ Rch l i ∧ i < l.length := fun i => by
    rw [mem_rcN]
    constructor
    · rintro ⟨k, _, h2, h3⟩
      obtain rfl : i = k := by omega
      exact (hC i).1 h2
    · intro h2
      exact ⟨i, by omega, (hC i).2 h2, rfl⟩
  have at_ : ∀ x ∈ (dec l).1, x.ad ∈ rcN C 512 → ∃ q : Nat, x = rd l q ∧ oneE l q = 0 ∧ Rch l q ∧ q < l.length := fun x hx hm => by
    obtain ⟨q, rfl, h0, _⟩ := hf x hx
    rw [rd_ad, mem] at hm
    exact ⟨q, rfl, h0, hm⟩
  have in_ : ∀ x ∈ (dec l).1, ∀ q : Int, x.ad ∈ rcN C 512 → q ∈ onw x → 0 ≤ q ∧ Rch l q.toNat ∧ Ok l q.toNat := fun x hx q hm hq => by
    obtain ⟨p, rfl, h0, hr, hp⟩ := at_ x hx hm
    have := ok_next hby h hp (rch_ok hby h hr) hq
    exact ⟨this.1, Rch.step hr hp hq, this.2⟩
  refine ⟨fun x hx => ?_, fun x hx hm hg hlt => ?_, fun x hx hm hj => ?_, rcN_rises C 512, fun a ha => ?_, ?_⟩
  · obtain ⟨q, rfl, h0, _⟩ := hf x hx
    have := oneE_ok h0
    refine ⟨this.2.1, this.2.2.1, ?_, ?_⟩
    · rw [rd_ad]; omega
    · rw [rd_ad]; omega
  · have hq : x.ad + sz x.op ∈ onw x := by
      unfold onw
      rw [if_neg (by have := hg.1; have := hg.2.2; omega), if_neg hg.2.1]
      split <;> simp
    obtain ⟨h1, h2, _⟩ := in_ x hx _ hm hq
    have := (mem (x.ad + sz x.op).toNat).2 ⟨h2, by omega⟩
    rwa [Int.toNat_of_nonneg h1] at this
  · have hq : x.im ∈ onw x := by
      unfold onw
      rcases hj with hj | hj <;> simp [hj]
    obtain ⟨h1, h2, h3⟩ := in_ x hx _ hm hq
    obtain ⟨p, rfl, h0, hr, hp⟩ := at_ x hx hm
    have htg := ht _ hx
    have hjj : jmp (rd l p) = true := decide_eq_true hj
    unfold tgt at htg
    rw [hjj] at htg
    simp only [Bool.not_true, Bool.false_or, List.any_eq_true, decide_eq_true_eq] at htg
    obtain ⟨y, hy, hya⟩ := htg
    obtain ⟨q', f1, f2, _⟩ := hf _ hy
    have eq : (rd l p).im = q' := by rw [← hya, f1]; rfl
    have := (oneE_ok f2).1
    have := (mem (rd l p).im.toNat).2 ⟨h2, by omega⟩
    rwa [Int.toNat_of_nonneg h1] at this
  · obtain ⟨i, _, h2, rfl⟩ := mem_rcN.1 ha
    obtain ⟨h3, h4⟩ := (hC i).1 h2
    exact ⟨rd l i, ((rch_ok hby h h3).2 h4).2, rd_ad l i⟩
  · have hpos : 0 < l.length := by
      rcases Nat.eq_zero_or_pos l.length with h0 | h0
      · rw [wkR_end (by omega)] at hw
        exact absurd (congrArg Prod.fst hw).symm hl
      · exact h0
    have h0 := (mem 0).2 ⟨Rch.zero, hpos⟩
    have hri := rcN_rises C 512
    cases hR : rcN C 512 with
    | nil => rw [hR] at h0; cases h0
    | cons a r =>
      rw [hR] at h0 hri
      obtain ⟨i, _, _, hi⟩ := mem_rcN.1 (show a ∈ rcN C 512 by rw [hR]; exact List.mem_cons_self ..)
      rcases List.mem_cons.1 h0 with h1 | h1
      · exact ⟨r, by rw [← h1]; rfl⟩
      · have := (List.pairwise_cons.1 hri).1 _ h1
        simp at this
        omega
theorem none_of {l : List Int} (h : (dec l).2 = 0) (hl : (dec l).1 = []) {C : Nat → Bool} (hC : ∀ i, C i = true ↔ Rch l i ∧ i < l.length) : rcN C 512 = [] := by
  obtain ⟨_, hw, _⟩ := dec_ok h
  have h0 : l.length = 0 := by
    rcases Nat.eq_zero_or_pos l.length with h0 | h0
    · exact h0
    · have := (wk_facts _ 0 (Nat.le_refl _) (Nat.zero_le _) hw).1 h0
      rw [hl] at this
      cases this.1
  refine List.eq_nil_iff_forall_not_mem.2 fun x hx => ?_
  obtain ⟨i, _, h2, _⟩ := mem_rcN.1 hx
  have := ((hC i).1 h2).2
  omega
set_option maxHeartbeats 400000 in
theorem f32_any (d o a b m y : Int) (p : Addr) (w : World) (h : w.cell? p = some (.int .i64 y)) : Calls Tryd.prog 32 #[iV d o a b m, .pointer (some p)] w fun e w' => e = .returned (.bool (d == y)) ∧ Grew w w' := by
  have h2 : (w.alloc (.cells #[.int .i64 d, .int .i64 o, .int .i64 a, .int .i64 b, .int .i64 m] 28)).cell? p = some (.int .i64 y) := ((below_box _).cell (World.block_lt_of_cell? w _ h)).trans h
  obtain ⟨t, ht⟩ : ∃ t, (d == y) = t := ⟨_, rfl⟩
  rw [ht]
  have HG := hide (grew_alloc (grew_refl w) (.cells #[.int .i64 d, .int .i64 o, .int .i64 a, .int .i64 b, .int .i64 m] 28))
  clear h
  go_enter Tryd.func32, Tryd.ntmps32
  go_wp2
  go_ret
  exact ⟨rfl, unhide HG⟩
set_option maxHeartbeats 800000 in
theorem indexF_any {w : World} {u : Value} {L : List Ins} (ha : SeesL iC 5 w u L) (p : Addr) (y : Int) (hp : w.cell? p = some (.int .i64 y)) (hex : ∃ x ∈ L, x.ad = y) :
    Calls Tryd.prog 63 #[u, .func (Fn.func 32) #[] #[.pointer (some p)]] w fun e w' => (∃ i : Nat, e = .returned (.int .i64 i)) ∧ Grew w w' := by
  obtain ⟨ao, ca, rfl⟩ := ha.shape
  have HA := hide ha
  have hmx : L.length ≤ 9223372036854775807 := by obtain ⟨_, _, _, _, _, _, h, _⟩ := ha; omega
  obtain ⟨n, hn⟩ : ∃ n, L.length = n := ⟨_, rfl⟩
  have HN := hide hn
  rw [hn] at HA hmx ⊢
  have HP := hide hp
  have HX := hide hex
  clear ha hn hp hex
  go_enter Tryd.func63, Tryd.ntmps63
  go_wp2
  go_loopw [8] (fun vi wr => ∃ j : Nat, j ≤ n ∧ vi = .int .i64 j ∧ Grew w wr ∧ ∀ t x, t < j → L[t]? = some x → x.ad ≠ y) (fun vi _ => n - (intOf vi).toNat)
  case atStart => exact ⟨0, Nat.zero_le _, rfl, grew_refl w, fun t x h => absurd h (by omega)⟩
  case round =>
    obtain ⟨z, rfl⟩ : ∃ z, z = wr := ⟨_, rfl⟩
    obtain ⟨j, hj, rfl, hg, hall⟩ := hrel
    have HG := hide hg
    have HL := hide hall
    by_cases hlt : j < n
    · have hl2 : (j : Int) < (n : Int) := by omega
      obtain ⟨x, hx⟩ : ∃ x, L[j]? = some x := ⟨_, List.getElem?_eq_getElem (by rw [unhide HN]; exact hlt)⟩
      obtain ⟨ao', ca', gb, ob, hv, _, hao, hc⟩ := ((unhide HA).below iC_len hg.below).ins
      simp only [Value.slice.injEq] at hv
      obtain ⟨rfl, -, rfl⟩ := hv
      obtain rfl := hao (by rw [unhide HN]; omega)
      have hcx := hc j x hx
      have hpz := (hg.below.cell (World.block_lt_of_cell? w _ (unhide HP))).trans (unhide HP)
      obtain ⟨xd, xo, xa, xb, xm⟩ := x
      obtain ⟨d0, d1, d2, d3, d4⟩ := hcx
      dsimp only at d0 d1 d2 d3 d4
      have HX2 := hide hx
      have hf := f32_any xd xo xa xb xm y p z hpz
      by_cases he : xd = y
      · rw [show (xd == y) = true by simpa using he] at hf
        have HF := hide hf
        clear hg hall he hx hc hao hpz hf
        go_wp2_with (go_at_call 32; refine (unhide HF).mono ?_; rintro e z1 ⟨rfl, hg1⟩)
        go_ret
        exact ⟨⟨j, rfl⟩, grew_trans (unhide HG) hg1⟩
      · rw [show (xd == y) = false by simpa using he] at hf
        have HF := hide hf
        have HE := hide he
        clear hg hall he hx hc hao hpz hf
        go_wp2_with (go_at_call 32; refine (unhide HF).mono ?_; rintro e z1 ⟨rfl, hg1⟩)
        go_roundw
        case rel =>
          refine ⟨j + 1, by omega, by go_num, grew_trans (unhide HG) hg1, fun t x ht hx => ?_⟩
          by_cases e : t = j
          · subst e
            rw [unhide HX2] at hx
            obtain rfl := Option.some.inj hx
            exact unhide HE
          · exact unhide HL t x (by omega) hx
        case measure => simp [intOf]; omega
    · exfalso
      obtain ⟨x, hx, hxy⟩ := unhide HX
      obtain ⟨t, ht, e⟩ := List.mem_iff_getElem.1 hx
      exact hall t x (by have := unhide HN; omega) (by rw [List.getElem?_eq_getElem ht, e]) hxy
theorem containsF_any {w : World} {u : Value} {L : List Ins} (ha : SeesL iC 5 w u L) (p : Addr) (y : Int) (hp : w.cell? p = some (.int .i64 y)) (hex : ∃ x ∈ L, x.ad = y) :
    Calls Tryd.prog 31 #[u, .func (Fn.func 32) #[] #[.pointer (some p)]] w fun e w' => e = .returned (.bool true) ∧ Grew w w' := by
  have HX := hide (indexF_any ha p y hp hex)
  obtain ⟨ao, ca, rfl⟩ := ha.shape
  generalize L.length = n at *
  clear ha hp
  go_enter Tryd.func31, Tryd.ntmps31
  go_wp2_with (go_at_call 63; refine (unhide HX).mono ?_; rintro e w1 ⟨⟨i, rfl⟩, hg⟩; have hi1 : decide ((i : Int) ≥ 0) = true := (by simp); have hi2 : decide (0 ≤ (i : Int)) = true := (by simp))
  go_ret
  exact ⟨rfl, hg⟩
end Go.Proofs.YtknpfippdddnhaaDoor
