/- The document's Decode. -/
import Derived.Test.YtknpfippdddnhabDoorU5
import Derived.Test.YtknpfippdddnhabDoorJQ
namespace Go.Proofs.YtknpfippdddnhabDoor
open Go.RowKit Go.Shelf
set_option maxRecDepth 100000

def DeR (w : World) (D : List Ins × Int) (e : Ending) (w' : World) : Prop := ∃ x, e = .returned (.tuple #[x, .int .i64 D.2]) ∧ Below w.heap.size w w' ∧ w'.ownsRow w.heap.size 35 5 x D.1.length (D.1.flatMap iC)
theorem wk_len {l : List Int} : ∀ (n p : Nat), l.length - p ≤ n → (wkR l p).1.length ≤ l.length - p := by
  intro n
  induction n with
  | zero => intro p h; rw [wkR_end (by omega)]; simp
  | succ n ih =>
    intro p h
    by_cases hlt : p < l.length
    · by_cases h0 : oneE l p = 0
      · have hs := sA_pos h0
        have := ih (p + sA l p) (by omega)
        rw [wkR_yes h0, List.length_cons]
        omega
      · rw [wkR_no hlt h0]; simp
    · rw [wkR_end (by omega)]; simp
theorem tgt_no {L : List Ins} {x : Ins} (h : jmp x = false) : tgt L x = true := by unfold tgt; rw [h]; rfl
theorem tgt_jmp {L : List Ins} {x : Ins} (h : jmp x = true) : tgt L x = bgB L x.im := by unfold tgt bgB; rw [h]; rfl
set_option maxHeartbeats 1600000 in
theorem rdecode_any {w : World} {v : Value} {l : List Int} (hs : SeesL yC 1 w v l) (hby : Byt l) :
    Calls Tryd.prog 8 #[v] w fun e w' => DeR w (dec l) e w' := by
  by_cases hm : l.length ≤ 512
  case neg =>
    rw [dec_long (by omega)]
    obtain ⟨ao, cap, rfl⟩ := hs.shape
    clear hs
    have hd : decide ((l.length : Int) > 512) = true := decide_eq_true (by omega)
    have hd2 : decide (512 < (l.length : Int)) = true := decide_eq_true (by omega)
    generalize l.length = n at *
    go_enter Tryd.func8, Tryd.ntmps8
    go_wp2
    go_ret2
    exact ⟨_, rfl, Below.refl _ _, own_nil _ _ _ _⟩
  have hwl := wk_len (l := l) l.length 0 (by omega)
  have hw := rwalk_any hs hby (by omega)
  have hd : decide ((l.length : Int) > 512) = false := decide_eq_false (by omega)
  have hd2 : decide (512 < (l.length : Int)) = false := decide_eq_false (by omega)
  obtain ⟨ao, cap, rfl⟩ := hs.shape
  by_cases hE : (wkR l 0).2 = 0
  case neg =>
    rw [dec_no hm hE]
    have hne : ((wkR l 0).2 != 0) = true := by simpa using hE
    have HW := hide hw
    clear hs hw hE hwl
    generalize l.length = n at *
    generalize (wkR l 0).2 = er at *
    go_enter Tryd.func8, Tryd.ntmps8
    go_wp2_with (go_at_call 21; refine (unhide HW).mono ?_; rintro e z ⟨x, rfl, hb, ho⟩; obtain ⟨a1, c1, rfl⟩ := own_shape ho; have HB := hide hb; clear hb ho)
    go_ret2
    exact ⟨_, rfl, unhide HB, own_nil _ _ _ _⟩
  obtain ⟨L, hL⟩ : ∃ L, wkR l 0 = (L, 0) := ⟨_, Prod.ext rfl hE⟩
  rw [hL] at hw hwl
  have hbj : ∀ x ∈ L, jmp x = true → 0 ≤ x.im := fun x hx hj => by
    obtain ⟨q, e, _⟩ := (wk_facts l.length 0 (by omega) (by omega) hL).2 x hx
    rw [e] at hj ⊢
    exact rd_im hby q hj
  have HW := hide hw
  have HL := hide hL
  have HM := hide hm
  have hk512 : L.length ≤ 512 := by simp only at hwl; omega
  clear hs hw hE hwl hL hbj
  obtain ⟨D, hD⟩ : ∃ D, dec l = D := ⟨_, rfl⟩
  rw [hD]
  have HD := hide hD
  clear hD hm
  obtain ⟨n, hn⟩ : ∃ n, l.length = n := ⟨_, rfl⟩
  rw [hn] at HW hd hd2 ⊢
  clear hn
  obtain ⟨k, hk⟩ : ∃ k, L.length = k := ⟨_, rfl⟩
  have HK := hide hk
  simp only at HW
  rw [hk] at HW hk512
  clear hk
  go_enter Tryd.func8, Tryd.ntmps8
  go_wp2_with (go_at_call 21; refine (unhide HW).mono ?_; rintro e z ⟨x, rfl, hb, ho⟩; obtain ⟨a1, c1, rfl⟩ := own_shape ho; have HB := hide hb; have HO := hide ho; clear hb ho)
  have hsee := (own_sees iC_len (by decide) (unhide HO)).2
  obtain ⟨ao', cap', g, o, hv2, _, hao, hc⟩ := hsee.ins
  simp only [Value.slice.injEq] at hv2
  obtain ⟨rfl, -, rfl⟩ := hv2
  rw [unhide HK] at hao
  have HC := hide hc
  have HSE : Hid (SeesL iC 5 z (.slice a1 k c1) L) := hsee
  clear hc hsee
  go_loopw [6] (fun c y => ∃ t : Nat, t ≤ k ∧ c = .int .i64 t ∧ (∀ u, u < t → ∀ x, L[u]? = some x → tgt L x = true) ∧ y = z) (fun c _ => k - (intOf c).toNat)
  case atStart => exact ⟨0, Nat.zero_le _, rfl, fun u hu => absurd hu (by omega), rfl⟩
  case round =>
    obtain ⟨t, ht, rfl, hF, rfl⟩ := hrel
    have HF := hide hF
    clear hF
    by_cases hlt : t < k
    · obtain ⟨x, hx⟩ : ∃ x, L[t]? = some x := ⟨_, List.getElem?_eq_getElem (by rw [unhide HK]; exact hlt)⟩
      obtain rfl := hao (by omega)
      obtain ⟨d0, d1, d2, d3, d4⟩ := unhide HC t x hx
      have hlt2 : (t : Int) < (k : Int) := by omega
      have HX := hide hx
      have hnext : tgt L x = true → ∀ u, u < t + 1 → ∀ y, L[u]? = some y → tgt L y = true := fun h u hu y hy => by
        by_cases he : u = t
        · subst he
          rw [unhide HX] at hy
          obtain rfl := Option.some.inj hy
          exact h
        · exact unhide HF u (by omega) y hy
      have HNX := hide hnext
      clear hx hnext d0 d2 d3
      obtain ⟨xd, xo, xa, xb, xm⟩ := x
      have HJ := hide (fun w => rjumps_any xd xo xa xb xm w)
      have HBG := hide (begins_any xm (unhide HSE) (by rw [unhide HK]; omega))
      by_cases hj : jmp ⟨xd, xo, xa, xb, xm⟩ = true
      · rw [hj] at HJ
        rw [← tgt_jmp hj] at HBG
        cases htg : tgt L ⟨xd, xo, xa, xb, xm⟩ with
        | true =>
          rw [htg] at HBG HNX
          have HNN := hide (unhide HNX rfl)
          clear hj htg HNX
          go_wp2_with (first
            | (go_at_call 22; refine (unhide HJ _).mono ?_; rintro e w2 ⟨rfl, rfl⟩)
            | (go_at_call 23; refine (unhide HBG).mono ?_; rintro e w2 ⟨rfl, rfl⟩))
          go_roundw
          case rel => exact ⟨t + 1, by omega, by go_num, unhide HNN, trivial⟩
          case measure => simp [intOf]; omega
        | false =>
          rw [htg] at HBG
          have HDE := hide (dec_tgt (unhide HM) (unhide HL) (unhide HX) htg)
          clear hj htg HNX
          go_wp2_with (first
            | (go_at_call 22; refine (unhide HJ _).mono ?_; rintro e w2 ⟨rfl, rfl⟩)
            | (go_at_call 23; refine (unhide HBG).mono ?_; rintro e w2 ⟨rfl, rfl⟩))
          go_ret2
          rw [← unhide HD, unhide HDE]
          exact ⟨_, rfl, unhide HB, own_nil _ _ _ _⟩
      · have hj' : jmp ⟨xd, xo, xa, xb, xm⟩ = false := by simpa using hj
        rw [hj'] at HJ
        have HNN := hide (unhide HNX (tgt_no hj'))
        clear hj hj' HNX HBG
        go_wp2_with (go_at_call 22; refine (unhide HJ _).mono ?_; rintro e w2 ⟨rfl, rfl⟩)
        go_roundw
        case rel => exact ⟨t + 1, by omega, by go_num, unhide HNN, trivial⟩
        case measure => simp [intOf]; omega
    · have HDE := hide (dec_yes (unhide HM) (unhide HL) (fun u x hu hx => unhide HF u (by rw [unhide HK] at hu; omega) x hx))
      have hge : ¬ (t : Int) < (k : Int) := by omega
      go_wp2
      go_ret2
      rw [← unhide HD, unhide HDE]
      refine ⟨_, rfl, unhide HB, ?_⟩
      dsimp only
      rw [unhide HK]
      exact unhide HO
end Go.Proofs.YtknpfippdddnhabDoor
