/- Several texts as one. -/
import Derived.Test.YtldapckooohigaaDoorJA
import Derived.Test.YtldapckooohigaaDoorJP
import Derived.Test.YtldapckooohigaaDoorJK

/- Keys that rise: below, the document's Compare; rise, the document's rises. -/
namespace Go.Proofs.YtldapckooohigaaDoor
open Go.RowKit Go.Shelf
set_option maxRecDepth 100000

theorem SeesL.key {w : World} {v : Value} {l : List Ky} (h : SeesL kC 2 w v l) : ∃ ao cap gb ob, v = .slice ao l.length cap ∧ (0 < l.length → ao = some ⟨gb, ob, none⟩) ∧ ∀ t x, l[t]? = some x → w.cell? ⟨gb, ob + t * 2, none⟩ = some (.int .i32 x.1) ∧ w.cell? ⟨gb, ob + t * 2 + 1, none⟩ = some (.int .i64 x.2) := by
  obtain ⟨ao, cap, gb, ob, h1, h2, h3, h4, h5, h6⟩ := h
  exact ⟨ao, cap, gb, ob, h1, h5, fun t x hx => ⟨h6 t x hx 0 (by decide), h6 t x hx 1 (by decide)⟩⟩
set_option maxHeartbeats 800000 in
theorem below_any (a b : Ky) (w : World) : Calls Tryd.prog 51 #[kV a, kV b] w fun e w' => e = .returned (.bool (decide (ltK a b))) ∧ Grew w w' := by
  have HG := hide (grew_alloc (grew_alloc (grew_refl w) (.cells #[.int .i32 a.1, .int .i64 a.2] 38)) (.cells #[.int .i32 b.1, .int .i64 b.2] 38))
  obtain ⟨a1, a2⟩ := a
  obtain ⟨b1, b2⟩ := b
  simp only at HG
  by_cases h1 : a1 < b1
  · rw [decide_eq_true (show ltK (a1, a2) (b1, b2) from .inl h1)]
    go_enter Tryd.func51, Tryd.ntmps51
    go_wp2
    go_ret
    exact ⟨rfl, unhide HG⟩
  · by_cases h2 : a1 = b1
    · rw [show decide (ltK (a1, a2) (b1, b2)) = decide (a2 < b2) from decide_eq_decide.2 (by simp [ltK, h2])]
      subst h2
      have h3 : ¬ a1 < a1 := by omega
      go_enter Tryd.func51, Tryd.ntmps51
      go_wp2
      go_ret
      exact ⟨rfl, unhide HG⟩
    · rw [decide_eq_false (show ¬ ltK (a1, a2) (b1, b2) from by simp [ltK, h1, h2])]
      have h3 : (a1 == b1) = false := by simpa using h2
      go_enter Tryd.func51, Tryd.ntmps51
      go_wp2
      go_ret
      exact ⟨rfl, unhide HG⟩
def Ris (K : List Ky) : Prop := ∀ (i : Nat) (a b : Ky), K[i]? = some a → K[i + 1]? = some b → ltK a b
set_option maxHeartbeats 1600000 in
theorem rise_any {w : World} {v : Value} {K : List Ky} (bK : Bool) (hK : bK = true ↔ Ris K) (hs : SeesL kC 2 w v K) (hm : K.length ≤ 140737488351232) : Calls Tryd.prog 42 #[v] w fun e w' => e = .returned (.bool bK) ∧ Below w.heap.size w w' := by
  have HS := hide hs
  have HR := hide hK
  obtain ⟨ao, cap, rfl⟩ := hs.shape
  obtain ⟨k, hk⟩ : ∃ k, K.length = k := ⟨_, rfl⟩
  rw [hk] at HS hm ⊢
  have HK := hide hk
  clear hs hk hK
  go_enter Tryd.func42, Tryd.ntmps42
  go_wp2
  go_loopw [3] (fun c z => ∃ t : Nat, 1 ≤ t ∧ (t ≤ k ∨ t = 1) ∧ c = .int .i64 t ∧ (∀ (i : Nat) (a b : Ky), i + 1 < t → K[i]? = some a → K[i + 1]? = some b → ltK a b) ∧ Below w.heap.size w z) (fun c _ => k - (intOf c).toNat)
  case atStart => exact ⟨1, Nat.le_refl _, .inr rfl, rfl, fun i _ _ hi => absurd hi (by omega), Below.refl _ _⟩
  case round =>
    obtain ⟨t, ht1, ht, rfl, hF, hB⟩ := hrel
    have HF := hide hF
    have HB := hide hB
    by_cases hlt : t < k
    · obtain ⟨u, rfl⟩ : ∃ u, t = u + 1 := ⟨t - 1, by omega⟩
      obtain ⟨x, hx⟩ : ∃ x, K[u]? = some x := ⟨_, List.getElem?_eq_getElem (by rw [unhide HK]; omega)⟩
      obtain ⟨y, hy⟩ : ∃ y, K[u + 1]? = some y := ⟨_, List.getElem?_eq_getElem (by rw [unhide HK]; omega)⟩
      obtain ⟨ao', cap', g, o, hv2, hao, hc⟩ := ((unhide HS).below kC_len hB).key
      simp only [Value.slice.injEq] at hv2
      obtain ⟨rfl, -, rfl⟩ := hv2
      obtain rfl := hao (by rw [unhide HK]; omega)
      obtain ⟨d0, d1⟩ := hc u x hx
      obtain ⟨e0, e1⟩ := hc (u + 1) y hy
      obtain ⟨t, htu⟩ : ∃ t, u + 1 = t := ⟨_, rfl⟩
      rw [htu] at e0 e1 hlt ⊢
      have hw1 : IntKind.i64.wrap ((t : Int) - 1) = (u : Int) := by rw [wrap_i64 _ (by omega) (by omega)]; omega
      have hi0 : (0 : Int) ≤ (u : Int) := by omega
      have hi1 : (u : Int) < (k : Int) := by omega
      have hj0 : (0 : Int) ≤ (t : Int) := by omega
      have hj1 : (t : Int) < (k : Int) := by omega
      have HTU := hide htu
      have HX := hide (And.intro hx hy)
      have HCL := hide (fun w => below_any x y w)
      have hcl : ∀ z z', z.cell? ⟨g, o + u * 2, none⟩ = some (.int .i32 x.1) ∧ z.cell? ⟨g, o + u * 2 + 1, none⟩ = some (.int .i64 x.2) ∧ z.cell? ⟨g, o + t * 2, none⟩ = some (.int .i32 y.1) ∧ z.cell? ⟨g, o + t * 2 + 1, none⟩ = some (.int .i64 y.2) → Grew z z' → z'.cell? ⟨g, o + u * 2, none⟩ = some (.int .i32 x.1) ∧ z'.cell? ⟨g, o + u * 2 + 1, none⟩ = some (.int .i64 x.2) ∧ z'.cell? ⟨g, o + t * 2, none⟩ = some (.int .i32 y.1) ∧ z'.cell? ⟨g, o + t * 2 + 1, none⟩ = some (.int .i64 y.2) := fun z z' h hg => ⟨(hg.below.cell (World.block_lt_of_cell? z _ h.1)).trans h.1, (hg.below.cell (World.block_lt_of_cell? z _ h.2.1)).trans h.2.1, (hg.below.cell (World.block_lt_of_cell? z _ h.2.2.1)).trans h.2.2.1, (hg.below.cell (World.block_lt_of_cell? z _ h.2.2.2)).trans h.2.2.2⟩
      have HCC := hide hcl
      have HD := hide (And.intro d0 (And.intro d1 (And.intro e0 e1)))
      obtain ⟨x1, x2⟩ := x
      obtain ⟨y1, y2⟩ := y
      clear htu hx hy hc hF hB hcl d0 d1 e0 e1 ht1 ht
      go_wp2
      refine wp_region_held_drew (S := fun z => z.cell? ⟨g, o + u * 2, none⟩ = some (.int .i32 x1) ∧ z.cell? ⟨g, o + u * 2 + 1, none⟩ = some (.int .i64 x2) ∧ z.cell? ⟨g, o + t * 2, none⟩ = some (.int .i32 y1) ∧ z.cell? ⟨g, o + t * 2 + 1, none⟩ = some (.int .i64 y2)) (by kernel_rfl) (unhide HD) (fun hHeld => ?_)
      refine wpAnyH_take (i := 0) (v := ?v1) rfl (by kernel_rfl) (by kernel_rfl) (by kernel_rfl) (fun _ _ _ h => h) (Or.inl ⟨by rfl, ?hy1⟩) (by assumption) ?rest1
      case hy1 => intro w hSw; obtain ⟨s0, s1, s2, s3⟩ := hSw; go_simp <;> with_reducible rfl
      simp only [Act.put, List.getElem_toArray, List.getElem_cons_zero, List.setIfInBounds_toArray, List.set_cons_zero, List.set_cons_succ]
      refine wpAnyH_take (i := 1) (v := ?v2) rfl (by kernel_rfl) (by kernel_rfl) (by kernel_rfl) (fun _ _ _ h => h) (Or.inl ⟨by rfl, ?hy2⟩) (by assumption) ?rest2
      case hy2 => intro w hSw; obtain ⟨s0, s1, s2, s3⟩ := hSw; go_simp <;> with_reducible rfl
      simp only [Act.put, List.getElem_toArray, List.getElem_cons_zero, List.getElem_cons_succ, List.setIfInBounds_toArray, List.set_cons_zero, List.set_cons_succ]
      refine wpAnyH_take (i := 2) (v := ?v3) rfl (by kernel_rfl) (by kernel_rfl) (by kernel_rfl) (fun _ _ _ h => h) (Or.inl ⟨by rfl, ?hy3⟩) (by assumption) ?rest3
      case hy3 => intro w hSw; obtain ⟨s0, s1, s2, s3⟩ := hSw; go_simp <;> with_reducible rfl
      simp only [Act.put, List.getElem_toArray, List.getElem_cons_zero, List.getElem_cons_succ, List.setIfInBounds_toArray, List.set_cons_zero, List.set_cons_succ]
      refine wpAnyH_take (i := 3) (v := ?v4) rfl (by kernel_rfl) (by kernel_rfl) (by kernel_rfl) (fun _ _ _ h => h) (Or.inl ⟨by rfl, ?hy4⟩) (by assumption) ?rest4
      case hy4 => intro w hSw; obtain ⟨s0, s1, s2, s3⟩ := hSw; go_simp <;> with_reducible rfl
      simp only [Act.put, List.getElem_toArray, List.getElem_cons_zero, List.getElem_cons_succ, List.setIfInBounds_toArray, List.set_cons_zero, List.set_cons_succ]
      refine wpAnyH_take (i := 4) (v := ?v5) rfl (by kernel_rfl) (by kernel_rfl) (by kernel_rfl) (fun _ _ _ h => h) (Or.inl ⟨by rfl, ?hy5⟩) (by assumption) ?rest5
      case hy5 => intro w hSw; obtain ⟨s0, s1, s2, s3⟩ := hSw; go_simp <;> with_reducible rfl
      simp only [Act.put, List.getElem_toArray, List.getElem_cons_zero, List.getElem_cons_succ, List.setIfInBounds_toArray, List.set_cons_zero, List.set_cons_succ]
      refine wpAnyH_take (i := 5) (v := ?v6) rfl (by kernel_rfl) (by kernel_rfl) (by kernel_rfl) (fun _ _ _ h => h) (Or.inl ⟨by rfl, ?hy6⟩) (by assumption) ?rest6
      case hy6 => intro w hSw; obtain ⟨s0, s1, s2, s3⟩ := hSw; go_simp <;> with_reducible rfl
      simp only [Act.put, List.getElem_toArray, List.getElem_cons_zero, List.getElem_cons_succ, List.setIfInBounds_toArray, List.set_cons_zero, List.set_cons_succ]
      refine wpAnyH_take (i := 6) (v := ?v7) rfl (by kernel_rfl) (by kernel_rfl) (by kernel_rfl) (fun _ _ _ h => h) (Or.inl ⟨by rfl, ?hy7⟩) (by assumption) ?rest7
      case hy7 => intro w hSw; obtain ⟨s0, s1, s2, s3⟩ := hSw; go_simp <;> with_reducible rfl
      simp only [Act.put, List.getElem_toArray, List.getElem_cons_zero, List.getElem_cons_succ, List.setIfInBounds_toArray, List.set_cons_zero, List.set_cons_succ]
      refine wpAnyH_take (i := 7) (v := ?v8) rfl (by kernel_rfl) (by kernel_rfl) (by kernel_rfl) (fun _ _ _ h => h) (Or.inl ⟨by rfl, ?hy8⟩) (by assumption) ?rest8
      case hy8 => intro w hSw; obtain ⟨s0, s1, s2, s3⟩ := hSw; go_simp <;> with_reducible rfl
      simp only [Act.put, List.getElem_toArray, List.getElem_cons_zero, List.getElem_cons_succ, List.setIfInBounds_toArray, List.set_cons_zero, List.set_cons_succ]
      refine wpAnyH_take (i := 8) (v := ?v9) rfl (by kernel_rfl) (by kernel_rfl) (by kernel_rfl) (fun _ _ _ h => h) (Or.inl ⟨by rfl, ?hy9⟩) (by assumption) ?rest9
      case hy9 => intro w hSw; obtain ⟨s0, s1, s2, s3⟩ := hSw; go_simp <;> with_reducible rfl
      simp only [Act.put, List.getElem_toArray, List.getElem_cons_zero, List.getElem_cons_succ, List.setIfInBounds_toArray, List.set_cons_zero, List.set_cons_succ]
      refine wpAnyH_ready (rs := [9]) (by kernel_rfl) (by simp) ?_
      refine AllReadyH.cons rfl (fun K hK => ?_) AllReadyH.nil
      go_simp
      refine (unhide HCL _).mono ?_
      rintro e z ⟨rfl, hg⟩
      have HBZ : Hid (Below w.heap.size w z) := (unhide HB).drew.trans (hg.below.mono (unhide HB).size)
      refine hK _ _ (unhide HCC wr.drew z ⟨(unhide HD).1, (unhide HD).2.1, (unhide HD).2.2.1, (unhide HD).2.2.2⟩ hg) ?_
      clear hK hHeld hg
      intro hHeld
      refine wpAnyH_take (i := 10) (v := ?v10) rfl (by kernel_rfl) (by kernel_rfl) (by kernel_rfl) (fun _ _ _ h => h) (Or.inl ⟨by rfl, ?hy10⟩) (by assumption) ?rest10
      case hy10 => intro w hSw; obtain ⟨s0, s1, s2, s3⟩ := hSw; go_simp <;> with_reducible rfl
      simp only [Act.put, List.getElem_toArray, List.getElem_cons_zero, List.getElem_cons_succ, List.setIfInBounds_toArray, List.set_cons_zero, List.set_cons_succ]
      refine wpAnyH_done (by kernel_rfl) ?_ _
      clear hHeld
      clear HCL HD HCC
      skip
      by_cases hl : ltK (x1, x2) (y1, y2)
      · rw [decide_eq_true hl]
        have HL := hide hl
        clear hl
        go_wp2
        go_roundw
        case rel =>
          refine ⟨t + 1, by omega, .inl (by omega), by go_num, fun i a b hi ha hb => ?_, unhide HBZ⟩
          by_cases he : i = u
          · subst he
            rw [(unhide HX).1] at ha
            rw [(unhide HX).2] at hb
            obtain rfl := Option.some.inj ha
            obtain rfl := Option.some.inj hb
            exact unhide HL
          · exact unhide HF i a b (by have := unhide HTU; omega) ha hb
        case measure => simp [intOf]; omega
      · rw [decide_eq_false hl]
        have hbk : bK = false := by
          cases hb : bK
          · rfl
          · exact absurd ((unhide HR).1 hb u _ _ (unhide HX).1 (unhide HX).2) hl
        subst hbk
        clear hl
        go_wp2
        go_ret
        exact ⟨rfl, unhide HBZ⟩
    · have hbk : bK = true := (unhide HR).2 fun i a b ha hb => hF i a b (by have := (List.getElem?_eq_some_iff.1 hb).1; rw [unhide HK] at this; omega) ha hb
      have hge : ¬ (t : Int) < (k : Int) := by omega
      subst hbk
      clear hF hB
      go_wp2
      go_ret
      exact ⟨rfl, unhide HB⟩
end Go.Proofs.YtldapckooohigaaDoor

/- isTime, has, Check. -/
namespace Go.Proofs.YtldapckooohigaaDoor
open Go.RowKit Go.Shelf
set_option maxRecDepth 100000
def DeR (w : World) (D : List Ins × Int) (e : Ending) (w' : World) : Prop := ∃ x, e = .returned (.tuple #[x, .int .i64 D.2]) ∧ Below w.heap.size w w' ∧ w'.ownsRow w.heap.size 89 5 x D.1.length (D.1.flatMap iC)

def tm (n : Int) : Bool := decide (1 ≤ n ∧ n ≤ 1099511627776)
theorem time_any (n : Int) (w : World) : Calls Tryd.prog 41 #[.int .i64 n] w fun e w' => e = .returned (.bool (tm n)) ∧ w = w' := by
  unfold tm
  by_cases h1 : 1 ≤ n
  · rw [show decide (1 ≤ n ∧ n ≤ 1099511627776) = decide (n ≤ 1099511627776) from decide_eq_decide.2 (by simp [h1])]
    have g1 : decide (n ≥ 1) = true := decide_eq_true h1
    have g2 : decide (1 ≤ n) = true := decide_eq_true h1
    clear h1
    go_enter Tryd.func41, Tryd.ntmps41
    go_wp2
    go_ret
    exact ⟨rfl, rfl⟩
  · rw [decide_eq_false (show ¬ (1 ≤ n ∧ n ≤ 1099511627776) from fun z => h1 z.1)]
    have g1 : decide (n ≥ 1) = false := decide_eq_false h1
    have g2 : decide (1 ≤ n) = false := decide_eq_false h1
    clear h1
    go_enter Tryd.func41, Tryd.ntmps41
    go_wp2
    go_ret
    exact ⟨rfl, rfl⟩
def hasB (nA nR nW : Nat) (x : Ins) : Bool := if x.op = 2 then decide (x.im < nA) else if x.op = 3 ∨ x.op = 4 then decide (x.im < nR) else if x.op = 5 ∨ x.op = 6 then decide (x.im < nW) else true
set_option maxHeartbeats 1600000 in
theorem has_any (s r : Int) (a1 a2 a3 a4 : Option Addr) (n1 n2 n3 n4 c1 c2 c3 c4 : Nat) (d o a b m : Int) (w : World) : Calls Tryd.prog 44 #[(.agg #[.int .i64 s, .int .i64 r, .slice a1 n1 c1, .slice a2 n2 c2, .slice a3 n3 c3, .slice a4 n4 c4]), iV d o a b m] w fun e w' => e = .returned (.bool (hasB n2 n3 n4 ⟨d, o, a, b, m⟩)) ∧ Grew w w' := by
  have HG := hide (grew_alloc (grew_alloc (grew_refl w) (.cells #[.int .i64 s, .int .i64 r, .slice a1 n1 c1, .slice a2 n2 c2, .slice a3 n3 c3, .slice a4 n4 c4] 35)) (.cells #[.int .i64 d, .int .i64 o, .int .i64 a, .int .i64 b, .int .i64 m] 89))
  obtain ⟨B, hB⟩ : ∃ B, hasB n2 n3 n4 ⟨d, o, a, b, m⟩ = B := ⟨_, rfl⟩
  rw [hB]
  by_cases h2 : o = 2
  · subst h2
    obtain rfl : decide (m < (n2 : Int)) = B := by rw [← hB]; rfl
    clear hB 
    go_enter Tryd.func44, Tryd.ntmps44
    go_wp2
    go_ret
    exact ⟨rfl, unhide HG⟩
  have k2 : (o == 2) = false := by simpa using h2
  by_cases h3 : o = 3
  · subst h3
    obtain rfl : decide (m < (n3 : Int)) = B := by rw [← hB]; rfl
    clear hB h2 k2
    go_enter Tryd.func44, Tryd.ntmps44
    go_wp2
    go_ret
    exact ⟨rfl, unhide HG⟩
  have k3 : (o == 3) = false := by simpa using h3
  by_cases h4 : o = 4
  · subst h4
    obtain rfl : decide (m < (n3 : Int)) = B := by rw [← hB]; rfl
    clear hB h2 k2 h3 k3
    go_enter Tryd.func44, Tryd.ntmps44
    go_wp2
    go_ret
    exact ⟨rfl, unhide HG⟩
  have k4 : (o == 4) = false := by simpa using h4
  by_cases h5 : o = 5
  · subst h5
    obtain rfl : decide (m < (n4 : Int)) = B := by rw [← hB]; rfl
    clear hB h2 k2 h3 k3 h4 k4
    go_enter Tryd.func44, Tryd.ntmps44
    go_wp2
    go_ret
    exact ⟨rfl, unhide HG⟩
  have k5 : (o == 5) = false := by simpa using h5
  by_cases h6 : o = 6
  · subst h6
    obtain rfl : decide (m < (n4 : Int)) = B := by rw [← hB]; rfl
    clear hB h2 k2 h3 k3 h4 k4 h5 k5
    go_enter Tryd.func44, Tryd.ntmps44
    go_wp2
    go_ret
    exact ⟨rfl, unhide HG⟩
  have k6 : (o == 6) = false := by simpa using h6
  obtain rfl : true = B := by rw [← hB]; unfold hasB; simp [h2, h3, h4, h5, h6]
  clear hB h2 h3 h4 h5 h6
  go_enter Tryd.func44, Tryd.ntmps44
  go_wp2
  go_ret
  exact ⟨rfl, unhide HG⟩
/-- What is wrong with a transaction. -/
def chk (s r : Int) (nA nR nW : Nat) (bR bW : Bool) (D : List Ins × Int) : Int :=
  if tm s = false ∨ tm r = false then 1 else if 8 < nA ∨ 16 < nR ∨ 16 < nW then 3 else if bR = false ∨ bW = false then 1 else if D.2 ≠ 0 then D.2 else if D.1.all (hasB nA nR nW) = true then 0 else 132
theorem cells6 {w : World} {b : Nat} {v0 v1 v2 v3 v4 v5 : Value} {T : TypeId} (h : w.heap[b]? = some (.cells #[v0, v1, v2, v3, v4, v5] T)) : w.cell? ⟨b, 0, none⟩ = some v0 ∧ w.cell? ⟨b, 1, none⟩ = some v1 ∧ w.cell? ⟨b, 2, none⟩ = some v2 ∧ w.cell? ⟨b, 3, none⟩ = some v3 ∧ w.cell? ⟨b, 4, none⟩ = some v4 ∧ w.cell? ⟨b, 5, none⟩ = some v5 := ⟨cell_at h, cell_at h, cell_at h, cell_at h, cell_at h, cell_at h⟩
set_option maxHeartbeats 3200000 in
theorem check_any {w : World} (s r : Int) (a1 a2 a3 a4 : Option Addr) (n1 n2 n3 n4 c1 c2 c3 c4 : Nat) {l : List Int} {K1 K2 : List Ky} (bR bW : Bool) (hT : Tab w) (h1 : SeesL yC 1 w (.slice a1 n1 c1) l) (hby : Byt l) (h3 : SeesL kC 2 w (.slice a3 n3 c3) K1) (h4 : SeesL kC 2 w (.slice a4 n4 c4) K2) (hR : bR = true ↔ Ris K1) (hW : bW = true ↔ Ris K2) (hm1 : K1.length ≤ 140737488351232) (hm2 : K2.length ≤ 140737488351232) :
    Calls Tryd.prog 27 #[(.agg #[.int .i64 s, .int .i64 r, .slice a1 n1 c1, .slice a2 n2 c2, .slice a3 n3 c3, .slice a4 n4 c4])] w fun e w' => e = .returned (.int .i64 (chk s r n2 n3 n4 bR bW (dec l))) ∧ Below w.heap.size w w' := by
  obtain ⟨W0, hW0⟩ : ∃ W, w.alloc (.cells #[.int .i64 s, .int .i64 r, .slice a1 n1 c1, .slice a2 n2 c2, .slice a3 n3 c3, .slice a4 n4 c4] 35) = W := ⟨_, rfl⟩
  have hb0 : Below w.heap.size w W0 := hW0 ▸ below_box _
  have kt : W0.heap[w.heap.size]? = some (.cells #[.int .i64 s, .int .i64 r, .slice a1 n1 c1, .slice a2 n2 c2, .slice a3 n3 c3, .slice a4 n4 c4] 35) := hW0 ▸ heap_alloc_new w _
  have hlt := (Array.getElem?_eq_some_iff.1 kt).1
  have HB0 := hide hb0
  have HRR : Hid (∀ z, Below w.heap.size w z → Calls Tryd.prog 42 #[.slice a3 n3 c3] z fun e w' => e = .returned (.bool bR) ∧ Below z.heap.size z w') := fun z hb => rise_any bR hR (h3.below kC_len hb) hm1
  have HRW : Hid (∀ z, Below w.heap.size w z → Calls Tryd.prog 42 #[.slice a4 n4 c4] z fun e w' => e = .returned (.bool bW) ∧ Below z.heap.size z w') := fun z hb => rise_any bW hW (h4.below kC_len hb) hm2
  have HDC : Hid (∀ z, Below w.heap.size w z → Calls Tryd.prog 43 #[.slice a1 n1 c1] z fun e w' => DeR z (dec l) e w') := fun z hb => (decode_any (hT.below hb hT.pos) (h1.below yC_len hb) hby)
  have HZ : Hid (∀ z, Below W0.heap.size W0 z → Below w.heap.size w z) := fun z hb => hb0.trans (hb.mono (Nat.le_of_lt hlt))
  have HKT : Hid (∀ z, Below W0.heap.size W0 z → z.heap[w.heap.size]? = some (.cells #[.int .i64 s, .int .i64 r, .slice a1 n1 c1, .slice a2 n2 c2, .slice a3 n3 c3, .slice a4 n4 c4] 35)) := fun z hb => (hb.block _ hlt).trans kt
  obtain ⟨V, hV⟩ : ∃ V, chk s r n2 n3 n4 bR bW (dec l) = V := ⟨_, rfl⟩
  rw [hV]
  have HV := hide hV
  have HTS := hide (fun w => time_any s w)
  have HTR := hide (fun w => time_any r w)
  have HDL := hide (fun h : (dec l).2 = 0 => (dec_okI hby h).2)
  have HW0 := hide hW0
  clear h1 h3 h4 hR hW hm1 hm2 hV hb0 kt hW0 hby hT
  have eqV : ∀ x, x = V → V = x := fun x h => h.symm
  by_cases g1 : tm s = false
  · skip
    obtain rfl : 1 = V := by rw [← unhide HV]; unfold chk; rw [if_pos (.inl g1)]
    rw [g1] at HTS
    clear g1 HV eqV
    go_enter Tryd.func27, Tryd.ntmps27
    go_wp2_with (first
      | (go_at_call_of 41 (Value.int .i64 s); refine (unhide HTS _).mono ?_; rintro e w2 ⟨rfl, rfl⟩))
    go_ret
    exact ⟨rfl, by rw [unhide HW0]; exact unhide HB0⟩
  by_cases g2 : tm r = false
  · skip
    obtain rfl : 1 = V := by rw [← unhide HV]; unfold chk; rw [if_pos (.inr g2)]
    rw [show tm s = true by simpa using g1] at HTS
    rw [g2] at HTR
    clear g1 g2 HV eqV
    go_enter Tryd.func27, Tryd.ntmps27
    go_wp2_with (first
      | (go_at_call_of 41 (Value.int .i64 s); refine (unhide HTS _).mono ?_; rintro e w2 ⟨rfl, rfl⟩)
      | (go_at_call_of 41 (Value.int .i64 r); refine (unhide HTR _).mono ?_; rintro e w2 ⟨rfl, rfl⟩))
    go_ret
    exact ⟨rfl, by rw [unhide HW0]; exact unhide HB0⟩
  have G12 : ¬ (tm s = false ∨ tm r = false) := by simp [g1, g2]
  rw [show tm s = true by simpa using g1] at HTS
  rw [show tm r = true by simpa using g2] at HTR
  clear g1 g2
  by_cases gn2 : 8 < n2
  · skip
    obtain rfl : 3 = V := by rw [← unhide HV]; unfold chk; rw [if_neg G12, if_pos (.inl gn2)]
    have kn2 : decide ((n2 : Int) > 8) = true := decide_eq_true (by omega)
    have kn2' : decide (8 < (n2 : Int)) = true := decide_eq_true (by omega)
    clear HV eqV G12 gn2 
    go_enter Tryd.func27, Tryd.ntmps27
    go_wp2_with (first
      | (go_at_call_of 41 (Value.int .i64 s); refine (unhide HTS _).mono ?_; rintro e w2 ⟨rfl, rfl⟩)
      | (go_at_call_of 41 (Value.int .i64 r); refine (unhide HTR _).mono ?_; rintro e w2 ⟨rfl, rfl⟩))
    go_ret
    exact ⟨rfl, by rw [unhide HW0]; exact unhide HB0⟩
  have kn2 : decide ((n2 : Int) > 8) = false := decide_eq_false (by omega)
  have kn2' : decide (8 < (n2 : Int)) = false := decide_eq_false (by omega)
  by_cases gn3 : 16 < n3
  · skip
    obtain rfl : 3 = V := by rw [← unhide HV]; unfold chk; rw [if_neg G12, if_pos (.inr (.inl gn3))]
    have kn3 : decide ((n3 : Int) > 16) = true := decide_eq_true (by omega)
    have kn3' : decide (16 < (n3 : Int)) = true := decide_eq_true (by omega)
    clear HV eqV G12 gn3 gn2
    go_enter Tryd.func27, Tryd.ntmps27
    go_wp2_with (first
      | (go_at_call_of 41 (Value.int .i64 s); refine (unhide HTS _).mono ?_; rintro e w2 ⟨rfl, rfl⟩)
      | (go_at_call_of 41 (Value.int .i64 r); refine (unhide HTR _).mono ?_; rintro e w2 ⟨rfl, rfl⟩))
    go_ret
    exact ⟨rfl, by rw [unhide HW0]; exact unhide HB0⟩
  have kn3 : decide ((n3 : Int) > 16) = false := decide_eq_false (by omega)
  have kn3' : decide (16 < (n3 : Int)) = false := decide_eq_false (by omega)
  by_cases gn4 : 16 < n4
  · skip
    obtain rfl : 3 = V := by rw [← unhide HV]; unfold chk; rw [if_neg G12, if_pos (.inr (.inr gn4))]
    have kn4 : decide ((n4 : Int) > 16) = true := decide_eq_true (by omega)
    have kn4' : decide (16 < (n4 : Int)) = true := decide_eq_true (by omega)
    clear HV eqV G12 gn4 gn2 gn3
    go_enter Tryd.func27, Tryd.ntmps27
    go_wp2_with (first
      | (go_at_call_of 41 (Value.int .i64 s); refine (unhide HTS _).mono ?_; rintro e w2 ⟨rfl, rfl⟩)
      | (go_at_call_of 41 (Value.int .i64 r); refine (unhide HTR _).mono ?_; rintro e w2 ⟨rfl, rfl⟩))
    go_ret
    exact ⟨rfl, by rw [unhide HW0]; exact unhide HB0⟩
  have kn4 : decide ((n4 : Int) > 16) = false := decide_eq_false (by omega)
  have kn4' : decide (16 < (n4 : Int)) = false := decide_eq_false (by omega)
  have G3 : ¬ (8 < n2 ∨ 16 < n3 ∨ 16 < n4) := by omega
  clear gn2 gn3 gn4
  by_cases gR : bR = false
  · skip
    obtain rfl : 1 = V := by rw [← unhide HV]; unfold chk; rw [if_neg G12, if_neg G3, if_pos (.inl gR)]
    subst gR
    clear HV eqV G12 G3
    go_enter Tryd.func27, Tryd.ntmps27
    go_wp2_with (first
      | (go_at_call_of 41 (Value.int .i64 s); refine (unhide HTS _).mono ?_; rintro e w2 ⟨rfl, rfl⟩)
      | (go_at_call_of 41 (Value.int .i64 r); refine (unhide HTR _).mono ?_; rintro e w2 ⟨rfl, rfl⟩)
      | (go_at_call_of 42 (Value.slice a3 n3 c3); try rw [unhide HW0]; refine (unhide HRR _ (unhide HB0)).mono ?_; rintro e z1 ⟨rfl, hb1⟩; have Z1 := hide hb1; have kz1 := unhide HKT _ hb1; obtain ⟨p0, p1, p2, p3, p4, p5⟩ := cells6 kz1; clear hb1 kz1))
    go_ret
    exact ⟨rfl, unhide HZ _ (unhide Z1)⟩
  obtain rfl : bR = true := by simpa using gR
  clear gR
  by_cases gW : bW = false
  · skip
    obtain rfl : 1 = V := by rw [← unhide HV]; unfold chk; rw [if_neg G12, if_neg G3, if_pos (.inr gW)]
    subst gW
    clear HV eqV G12 G3
    go_enter Tryd.func27, Tryd.ntmps27
    go_wp2_with (first
      | (go_at_call_of 41 (Value.int .i64 s); refine (unhide HTS _).mono ?_; rintro e w2 ⟨rfl, rfl⟩)
      | (go_at_call_of 41 (Value.int .i64 r); refine (unhide HTR _).mono ?_; rintro e w2 ⟨rfl, rfl⟩)
      | (go_at_call_of 42 (Value.slice a3 n3 c3); try rw [unhide HW0]; refine (unhide HRR _ (unhide HB0)).mono ?_; rintro e z1 ⟨rfl, hb1⟩; have Z1 := hide hb1; have kz1 := unhide HKT _ hb1; obtain ⟨p0, p1, p2, p3, p4, p5⟩ := cells6 kz1; clear hb1 kz1)
      | (go_at_call_of 42 (Value.slice a4 n4 c4); refine (unhide HRW _ (unhide HZ _ (unhide Z1))).mono ?_; rintro e z2 ⟨rfl, hb2⟩; have Z2 : Hid (Below W0.heap.size W0 z2) := (unhide Z1).trans (hb2.mono (unhide Z1).size); have kz2 := unhide HKT _ (unhide Z2); obtain ⟨q0, q1, q2, q3, q4, q5⟩ := cells6 kz2; clear hb2 kz2))
    go_ret
    exact ⟨rfl, unhide HZ _ (unhide Z2)⟩
  obtain rfl : bW = true := by simpa using gW
  clear gW
  have G4 : ¬ (true = false ∨ true = false) := by simp
  by_cases gD : (dec l).2 = 0
  case neg =>
    obtain rfl : (dec l).2 = V := by rw [← unhide HV]; unfold chk; rw [if_neg G12, if_neg G3, if_neg G4, if_pos gD]
    have kD : ((dec l).2 != 0) = true := by simpa using gD
    clear HV eqV G12 G3 G4 gD HDL
    generalize dec l = D at *
    go_enter Tryd.func27, Tryd.ntmps27
    go_wp2_with (first
      | (go_at_call_of 41 (Value.int .i64 s); refine (unhide HTS _).mono ?_; rintro e w2 ⟨rfl, rfl⟩)
      | (go_at_call_of 41 (Value.int .i64 r); refine (unhide HTR _).mono ?_; rintro e w2 ⟨rfl, rfl⟩)
      | (go_at_call_of 42 (Value.slice a3 n3 c3); try rw [unhide HW0]; refine (unhide HRR _ (unhide HB0)).mono ?_; rintro e z1 ⟨rfl, hb1⟩; have Z1 := hide hb1; have kz1 := unhide HKT _ hb1; obtain ⟨p0, p1, p2, p3, p4, p5⟩ := cells6 kz1; clear hb1 kz1)
      | (go_at_call_of 42 (Value.slice a4 n4 c4); refine (unhide HRW _ (unhide HZ _ (unhide Z1))).mono ?_; rintro e z2 ⟨rfl, hb2⟩; have Z2 : Hid (Below W0.heap.size W0 z2) := (unhide Z1).trans (hb2.mono (unhide Z1).size); have kz2 := unhide HKT _ (unhide Z2); obtain ⟨q0, q1, q2, q3, q4, q5⟩ := cells6 kz2; clear hb2 kz2)
      | (go_at_call 43; refine (unhide HDC _ (unhide HZ _ (unhide Z2))).mono ?_; rintro e z3 ⟨x3, rfl, hb3, ho3⟩; obtain ⟨a5, c5, rfl⟩ := own_shape ho3; have Z3 : Hid (Below W0.heap.size W0 z3) := (unhide Z2).trans (hb3.mono (unhide Z2).size); have O3 := hide ho3; clear hb3 ho3))
    go_ret
    exact ⟨rfl, unhide HZ _ (unhide Z3)⟩
  obtain ⟨L, hL⟩ : ∃ L, dec l = (L, 0) := ⟨_, Prod.ext rfl gD⟩
  have hV : (if L.all (hasB n2 n3 n4) = true then (0 : Int) else 132) = V := by rw [← unhide HV]; unfold chk; rw [if_neg G12, if_neg G3, if_neg G4, hL]; rfl
  have hk512 : L.length ≤ 512 := by have := unhide HDL gD; rw [hL] at this; exact this
  have HVV := hide hV
  rw [hL] at HDC
  clear HV eqV G12 G3 G4 gD HDL hL hV
  obtain ⟨k, hk⟩ : ∃ k, L.length = k := ⟨_, rfl⟩
  have HK := hide hk
  rw [hk] at hk512
  clear hk
  go_enter Tryd.func27, Tryd.ntmps27
  go_wp2_with (first
    | (go_at_call_of 41 (Value.int .i64 s); refine (unhide HTS _).mono ?_; rintro e w2 ⟨rfl, rfl⟩)
    | (go_at_call_of 41 (Value.int .i64 r); refine (unhide HTR _).mono ?_; rintro e w2 ⟨rfl, rfl⟩)
    | (go_at_call_of 42 (Value.slice a3 n3 c3); try rw [unhide HW0]; refine (unhide HRR _ (unhide HB0)).mono ?_; rintro e z1 ⟨rfl, hb1⟩; have Z1 := hide hb1; have kz1 := unhide HKT _ hb1; obtain ⟨p0, p1, p2, p3, p4, p5⟩ := cells6 kz1; clear hb1 kz1)
    | (go_at_call_of 42 (Value.slice a4 n4 c4); refine (unhide HRW _ (unhide HZ _ (unhide Z1))).mono ?_; rintro e z2 ⟨rfl, hb2⟩; have Z2 : Hid (Below W0.heap.size W0 z2) := (unhide Z1).trans (hb2.mono (unhide Z1).size); have kz2 := unhide HKT _ (unhide Z2); obtain ⟨q0, q1, q2, q3, q4, q5⟩ := cells6 kz2; clear hb2 kz2)
    | (go_at_call 43; refine (unhide HDC _ (unhide HZ _ (unhide Z2))).mono ?_; rintro e z3 ⟨x3, rfl, hb3, ho3⟩; obtain ⟨a5, c5, rfl⟩ := own_shape ho3; have Z3 : Hid (Below W0.heap.size W0 z3) := (unhide Z2).trans (hb3.mono (unhide Z2).size); have O3 := hide ho3; clear hb3 ho3))
  have hsee := (own_sees iC_len (by decide) (unhide O3)).2
  obtain ⟨ao', cap', g, o, hv2, _, hao, hc⟩ := hsee.ins
  simp only [Value.slice.injEq] at hv2
  obtain ⟨rfl, hln, rfl⟩ := hv2
  have hlk : (([] : List Ins).length = 0) := rfl
  clear hlk hln
  simp only [unhide HK] at hao ⊢
  have HC := hide hc
  have HSE := hide hsee
  clear hc hsee p0 p1 p2 p3 p4 p5 q0 q1 q2 q3 q4 q5
  go_loopw [57] (fun c y => ∃ t : Nat, t ≤ k ∧ c = .int .i64 t ∧ (∀ u, u < t → ∀ x, L[u]? = some x → hasB n2 n3 n4 x = true) ∧ Below z3.heap.size z3 y) (fun c _ => k - (intOf c).toNat)
  case atStart => exact ⟨0, Nat.zero_le _, rfl, fun u hu => absurd hu (by omega), Below.refl _ _⟩
  case round =>
    obtain ⟨t, ht, rfl, hF, hBy⟩ := hrel
    have HF := hide hF
    have HBY := hide hBy
    have ZY : Hid (Below W0.heap.size W0 wr) := (unhide Z3).trans (hBy.mono (unhide Z3).size)
    have kzy := unhide HKT _ (unhide ZY)
    obtain ⟨p0, p1, p2, p3, p4, p5⟩ := cells6 kzy
    by_cases hlt : t < k
    · obtain ⟨x, hx⟩ : ∃ x, L[t]? = some x := ⟨_, List.getElem?_eq_getElem (by rw [unhide HK]; exact hlt)⟩
      obtain rfl := hao (by omega)
      obtain ⟨e0, e1, e2, e3, e4⟩ := unhide HC t x hx
      have up : ∀ q v, z3.cell? q = some v → wr.cell? q = some v := fun q v h => (hBy.cell (World.block_lt_of_cell? z3 _ h)).trans h
      have e0 := up _ _ e0
      have e1 := up _ _ e1
      have e2 := up _ _ e2
      have e3 := up _ _ e3
      have e4 := up _ _ e4
      have hlt2 : (t : Int) < (k : Int) := by omega
      have HX := hide hx
      have hnext : hasB n2 n3 n4 x = true → ∀ u, u < t + 1 → ∀ y, L[u]? = some y → hasB n2 n3 n4 y = true := fun h u hu y hy => by
        by_cases he : u = t
        · subst he
          rw [unhide HX] at hy
          obtain rfl := Option.some.inj hy
          exact h
        · exact unhide HF u (by omega) y hy
      have HNX := hide hnext
      have hbad : hasB n2 n3 n4 x = false → V = 132 := fun h => by
        rw [← unhide HVV]
        refine if_neg fun z => ?_
        have := List.all_eq_true.1 z x (List.mem_of_getElem? (unhide HX))
        rw [h] at this
        cases this
      have HBD := hide hbad
      clear hx hnext hbad hF hBy up kzy
      obtain ⟨xd, xo, xa, xb, xm⟩ := x
      have HHS := hide (fun w => has_any s r a1 a2 a3 a4 n1 n2 n3 n4 c1 c2 c3 c4 xd xo xa xb xm w)
      have pO : ∀ o j v, wr.cell? ⟨w.heap.size, j, none⟩ = some v → (wr.alloc o).cell? ⟨w.heap.size, j, none⟩ = some v := fun o j v h => ((below_box o).cell (World.block_lt_of_cell? wr _ h)).trans h
      have p0 := fun o => pO o 0 _ p0
      have p1 := fun o => pO o 1 _ p1
      have p2 := fun o => pO o 2 _ p2
      have p3 := fun o => pO o 3 _ p3
      have p4 := fun o => pO o 4 _ p4
      have p5 := fun o => pO o 5 _ p5
      clear pO
      obtain ⟨h, hh⟩ : ∃ h, hasB n2 n3 n4 ⟨xd, xo, xa, xb, xm⟩ = h := ⟨_, rfl⟩
      rw [hh] at HHS HNX HBD
      cases h
      · obtain rfl := unhide HBD rfl
        clear hh HNX HBD
        go_wp2_with (go_at_call 44; refine (unhide HHS _).mono ?_; rintro e z4 ⟨rfl, hg4⟩; have Z4 : Hid (Below W0.heap.size W0 z4) := ((unhide ZY).alloc (unhide ZY).size _).trans (hg4.below.mono (Nat.le_trans (unhide ZY).size (by simp))); clear hg4)
        go_ret
        exact ⟨rfl, unhide HZ _ (unhide Z4)⟩
      · have HNN := hide (unhide HNX rfl)
        clear hh HNX HBD
        go_wp2_with (go_at_call 44; refine (unhide HHS _).mono ?_; rintro e z4 ⟨rfl, hg4⟩; have Z4 : Hid (Below z3.heap.size z3 z4) := ((unhide HBY).alloc (unhide HBY).size _).trans (hg4.below.mono (Nat.le_trans (unhide HBY).size (by simp))); clear hg4)
        go_roundw
        case rel => exact ⟨t + 1, by omega, by go_num, unhide HNN, unhide Z4⟩
        case measure => simp [intOf]; omega
    · have hV0 : V = 0 := by
        rw [← unhide HVV]
        refine if_pos (List.all_eq_true.2 fun x hx => ?_)
        obtain ⟨u, hu, rfl⟩ := List.mem_iff_getElem.1 hx
        exact hF u (by rw [unhide HK] at hu; omega) _ (List.getElem?_eq_getElem hu)
      subst hV0
      have hge : ¬ (t : Int) < (k : Int) := by omega
      clear hF hBy kzy
      go_wp2
      go_ret
      exact ⟨rfl, unhide HZ _ (unhide ZY)⟩
end Go.Proofs.YtldapckooohigaaDoor
