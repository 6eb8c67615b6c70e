/- The document's Walk, begins, jumps, Decode. -/
import Derived.Test.YtknpfippdddnhabDoorU4
import Derived.Test.YtknpfippdddnhabDoorY2
namespace Go.Proofs.YtknpfippdddnhabDoor
open Go.RowKit Go.Shelf
set_option maxRecDepth 100000

theorem appI {w : World} {base n : Nat} {v : Value} {L : List Ins} (x : Ins) (ho : w.ownsRow base 35 5 v n (L.flatMap iC)) (hn : (n + 1) * 40 ≤ 140737488355328) (hb : base ≤ w.heap.size) :
    ∃ ao cap w', (Builtin.append_ #[28, 28] 28 #[v, .slice (some ⟨w.heap.size, 0, none⟩) 1 1]).run Tryd.prog (w.alloc (.cells #[.int .i64 x.ad, .int .i64 x.op, .int .i64 x.a, .int .i64 x.b, .int .i64 x.im] 35)) = .ok (.slice ao (n + 1) cap) w' ∧ w'.ownsRow base 35 5 (.slice ao (n + 1) cap) (n + 1) ((L ++ [x]).flatMap iC) ∧ Below base w w' := by
  obtain ⟨ao, cap, w', h1, h2, h3⟩ := rtI.app (l := L) 28 (ho.alloc (.cells #[.int .i64 x.ad, .int .i64 x.op, .int .i64 x.a, .int .i64 x.b, .int .i64 x.im] 35)) (sees_oneI w x) (by simp; omega) (by simp; omega) (by simp; omega)
  exact ⟨ao, cap, w', h1, h2, ((Below.refl _ _).alloc hb _).trans h3⟩
set_option maxHeartbeats 1600000 in
theorem rwalk_any {w : World} {v : Value} {l : List Int} (hs : SeesL yC 1 w v l) (hby : Byt l) (hm : l.length ≤ 3518437208883) :
    Calls Tryd.prog 21 #[v] w fun e w' => ∃ x, e = .returned (.tuple #[x, .int .i64 (wkR l 0).2]) ∧ Below w.heap.size w w' ∧ w'.ownsRow w.heap.size 35 5 x (wkR l 0).1.length ((wkR l 0).1.flatMap iC) := by
  have HS := hide hs
  have HBY := hide hby
  obtain ⟨ao, cap, rfl⟩ := hs.shape
  obtain ⟨k, hk⟩ : ∃ k, l.length = k := ⟨_, rfl⟩
  rw [hk] at HS hm ⊢
  have HK := hide hk
  clear hs hk hby
  go_enter Tryd.func21, Tryd.ntmps21
  go_wp2
  go_loopw [4, 5] (fun x c z => ∃ (p : Nat) (L : List Ins), Rl l p L ∧ c = .int .i64 p ∧ z.ownsRow w.heap.size 35 5 x L.length (L.flatMap iC) ∧ Below w.heap.size w z) (fun _ c _ => k - (intOf c).toNat)
  case atStart => exact ⟨0, [], Rl.start l, rfl, own_nil _ _ _ _, Below.refl _ _⟩
  case round =>
    obtain ⟨p, L, hR, rfl, hO, hB⟩ := hrel
    obtain ⟨va, vc, hv⟩ := own_shape hO
    rw [hv] at hO ⊢
    have hp := hR.hp
    rw [unhide HK] at hp
    have hL := hR.len
    by_cases hlt : p < k
    · have hone := rone_any (p : Int) ((unhide HS).below yC_len hB) (unhide HBY) (by rw [unhide HK]; omega)
      have hlt2 : (p : Int) < (k : Int) := by omega
      have HB := hide hB
      have HO := hide hO
      by_cases h0 : oneE l p = 0
      · have hst := hR.step h0
        have hsA := sA_pos h0
        have hN : oneN l p = ((p + sA l p : Nat) : Int) := by unfold oneN; rw [if_pos h0, Int.toNat_natCast]; omega
        have hX : oneX l p = rd l p := oneX_ok h0
        rw [h0, hN, hX] at hone
        have hpp : p < p + sA l p := by omega
        generalize p + sA l p = p' at *
        generalize rd l p = x at *
        have HON := hide hone
        have HR := hide hst
        clear hone hst hR hN hX h0 hB hO hv hsA
        obtain ⟨xd, xo, xa, xb, xm⟩ := x
        generalize hn : L.length = n at *
        go_wp2_with (first
          | (go_at_call 34; refine (unhide HON).mono ?_; rintro e z ⟨rfl, hbz⟩; obtain ⟨a1, k1, y1, r1, o1, b1⟩ := appI ⟨xd, xo, xa, xb, xm⟩ ((own_below (unhide HO) hbz).alloc (.cells #[.int .i64 xd, .int .i64 xo, .int .i64 xa, .int .i64 xb, .int .i64 xm] 35)) (by omega) (Nat.le_trans (unhide HB).size (Nat.le_trans hbz.size (by simp))); rw [World.size_alloc] at r1; have R1 := hide r1; have O1 := hide o1; have B1 : Hid (Below w.heap.size w y1) := ((unhide HB).trans (hbz.mono (unhide HB).size)).trans (((below_box _).mono (Nat.le_trans (unhide HB).size hbz.size)).trans b1); clear r1 o1 b1 hbz)
          | ((with_reducible show wpList _ _ _ (⟨some 27, _, _, _, _, _⟩ :: _) _ _); refine wpList_append_wanted (by rfl) _ _ 28 rfl rfl rfl (unhide R1) ?_))
        go_roundw
        case rel => exact ⟨p', _, unhide HR, rfl, by rw [List.length_append, hn]; exact unhide O1, unhide B1⟩
        case measure => simp [intOf]; omega
      · have hE := hR.stop (by rw [unhide HK]; exact hlt) h0
        have HE := hide hE
        have hne : (oneE l p != 0) = true := by simpa using h0
        generalize oneE l p = er at *
        generalize oneX l p = x at *
        have HON := hide hone
        clear hone hR h0 hB hO hv hE
        obtain ⟨xd, xo, xa, xb, xm⟩ := x
        generalize hn : L.length = n at *
        go_wp2_with (go_at_call 34; refine (unhide HON).mono ?_; rintro e z ⟨rfl, hbz⟩; have B1 : Hid (Below w.heap.size w (z.alloc (.cells #[.int .i64 xd, .int .i64 xo, .int .i64 xa, .int .i64 xb, .int .i64 xm] 35))) := ((unhide HB).trans (hbz.mono (unhide HB).size)).alloc (Nat.le_trans (unhide HB).size hbz.size) _; have O1 := hide ((own_below (unhide HO) hbz).alloc (.cells #[.int .i64 xd, .int .i64 xo, .int .i64 xa, .int .i64 xb, .int .i64 xm] 35)); clear hbz)
        go_ret2
        rw [unhide HE]
        refine ⟨_, rfl, unhide B1, ?_⟩
        dsimp only
        rw [hn]
        exact unhide O1
    · have hE := hR.done (by rw [unhide HK]; omega)
      have HE := hide hE
      have hge : ¬ (p : Int) < (k : Int) := by omega
      have HB := hide hB
      have HO := hide hO
      clear hR hB hO hv hE
      generalize hn : L.length = n at *
      go_wp2
      go_ret2
      rw [unhide HE]
      refine ⟨_, rfl, unhide HB, ?_⟩
      dsimp only
      rw [hn]
      exact unhide HO
theorem rjumps_any (d o a b m : Int) (w : World) : Calls Tryd.prog 22 #[.int .i64 o] w fun e w' => e = .returned (.bool (jmp ⟨d, o, a, b, m⟩)) ∧ w = w' := by
  by_cases h1 : o = 22
  · rw [show jmp ⟨d, o, a, b, m⟩ = true from decide_eq_true (.inl h1)]
    subst h1
    go_enter Tryd.func22, Tryd.ntmps22
    go_wp2
    go_ret
    exact ⟨rfl, rfl⟩
  · have g1 : (o == 22) = false := by simpa using h1
    by_cases h2 : o = 23
    · rw [show jmp ⟨d, o, a, b, m⟩ = true from decide_eq_true (.inr h2)]
      subst h2
      go_enter Tryd.func22, Tryd.ntmps22
      go_wp2
      go_ret
      exact ⟨rfl, rfl⟩
    · have g2 : (o == 23) = false := by simpa using h2
      rw [show jmp ⟨d, o, a, b, m⟩ = false from decide_eq_false (by rintro (h | h); exact h1 h; exact h2 h)]
      clear h1 h2
      go_enter Tryd.func22, Tryd.ntmps22
      go_wp2
      go_ret
      exact ⟨rfl, rfl⟩
theorem bgB_take {L : List Ins} {t : Nat} {i : Int} (ht : L.length ≤ t) (h : ∀ u, u < t → ∀ x, L[u]? = some x → x.ad ≠ i) : bgB L i = false := by
  unfold bgB
  rw [List.any_eq_false]
  intro x hx
  obtain ⟨u, hu, rfl⟩ := List.mem_iff_getElem.1 hx
  have := h u (by omega) _ (List.getElem?_eq_getElem hu)
  simpa using this
set_option maxHeartbeats 800000 in
theorem begins_any {w : World} {u : Value} {L : List Ins} (i : Int) (hs : SeesL iC 5 w u L) (hm : L.length ≤ 3518437208883) : Calls Tryd.prog 23 #[u, .int .i64 i] w fun e w' => e = .returned (.bool (bgB L i)) ∧ w = w' := by
  have HS := hide hs
  obtain ⟨ao', cap', g, o, hv2, _, hao, hc⟩ := hs.ins
  obtain ⟨ao, cap, rfl⟩ := hs.shape
  simp only [Value.slice.injEq] at hv2
  obtain ⟨rfl, -, rfl⟩ := hv2
  obtain ⟨k, hk⟩ : ∃ k, L.length = k := ⟨_, rfl⟩
  rw [hk] at hm hao ⊢
  have HK := hide hk
  have HC := hide hc
  clear hs hk hc
  go_enter Tryd.func23, Tryd.ntmps23
  go_wp2
  go_loopw [5] (fun c z => ∃ t : Nat, t ≤ k ∧ c = .int .i64 t ∧ (∀ u, u < t → ∀ x, L[u]? = some x → x.ad ≠ i) ∧ z = w) (fun c _ => k - (intOf c).toNat)
  case atStart => exact ⟨0, Nat.zero_le _, rfl, fun u hu => absurd hu (by omega), rfl⟩
  case round =>
    obtain ⟨t, ht, rfl, hF, rfl⟩ := hrel
    by_cases hlt : t < k
    · obtain ⟨x, hx⟩ : ∃ x, L[t]? = some x := ⟨_, List.getElem?_eq_getElem (by rw [unhide HK]; exact hlt)⟩
      obtain rfl := hao (by omega)
      obtain ⟨d0, _, _, _, _⟩ := unhide HC t x hx
      have hlt2 : (t : Int) < (k : Int) := by omega
      by_cases hi : x.ad = i
      · have hq : (x.ad == i) = true := by simpa using hi
        have hb : bgB L i = true := by
          unfold bgB
          rw [List.any_eq_true]
          exact ⟨x, List.mem_of_getElem? hx, by simpa using hi⟩
        have HBB := hide hb
        clear hF hi hx hb
        go_wp2
        go_ret
        exact ⟨retBool (unhide HBB).symm, rfl⟩
      · have hq : (x.ad == i) = false := by simpa using hi
        have HF := hide hF
        have HX := hide hx
        have HI := hide hi
        clear hF hi hx
        go_wp2
        go_roundw
        case rel =>
          refine ⟨t + 1, by omega, by go_num, fun u hu y hy => ?_, trivial⟩
          by_cases he : u = t
          · subst he
            rw [unhide HX] at hy
            obtain rfl := Option.some.inj hy
            exact unhide HI
          · exact unhide HF u (by omega) y hy
        case measure => simp [intOf]; omega
    · have HBB := hide (bgB_take (by rw [unhide HK]; omega) hF)
      have hge : ¬ (t : Int) < (k : Int) := by omega
      clear hF
      go_wp2
      go_ret
      exact ⟨retBool (unhide HBB).symm, rfl⟩
end Go.Proofs.YtknpfippdddnhabDoor
