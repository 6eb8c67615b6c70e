/- Several texts as one. -/
import Derived.Test.YtggllgimlfchhabGreatJV
import Derived.Deep.RegionHeld3

/- Record: counts, replicas, the order of keys. -/
namespace Go.Proofs.YtggllgimlfchhabGreat
open Go.RowKit
set_option maxRecDepth 100000

theorem retBool {a b : Bool} (h : a = b) : Ending.returned (.bool a) = .returned (.bool b) := by rw [h]
theorem retInt {k : IntKind} {a b : Int} (h : a = b) : Ending.returned (.int k a) = .returned (.int k b) := by rw [h]

def isCnt (n : Int) : Bool := decide (0 ≤ n ∧ n ≤ 1099511627776)
def isRep (n : Int) : Bool := decide (0 ≤ n ∧ n < 5)

theorem isCount_any (n : Int) (w : World) : Calls Tryz.prog 51 #[.int .i64 n] w fun e w' => e = .returned (.bool (isCnt n)) ∧ w = w' := by
  unfold isCnt
  by_cases h : 0 ≤ n
  · go_enter Tryz.func51, Tryz.ntmps51
    go_wp2
    go_ret
    exact ⟨retBool (by simp; omega), rfl⟩
  · go_enter Tryz.func51, Tryz.ntmps51
    go_wp2
    go_ret
    exact ⟨retBool (by simp; omega), rfl⟩
theorem count_any (n : Int) (w : World) : Calls Tryz.prog 31 #[.int .i64 n] w fun e w' => e = .returned (.bool (isCnt n)) ∧ w = w' := by
  unfold isCnt
  by_cases h : 0 ≤ n
  · go_enter Tryz.func31, Tryz.ntmps31
    go_wp2
    go_ret
    exact ⟨retBool (by simp; omega), rfl⟩
  · go_enter Tryz.func31, Tryz.ntmps31
    go_wp2
    go_ret
    exact ⟨retBool (by simp; omega), rfl⟩
theorem isReplica_any (n : Int) (w : World) : Calls Tryz.prog 50 #[.int .i64 n] w fun e w' => e = .returned (.bool (isRep n)) ∧ w = w' := by
  unfold isRep
  by_cases h : 0 ≤ n
  · go_enter Tryz.func50, Tryz.ntmps50
    go_wp2
    go_ret
    exact ⟨retBool (by simp; omega), rfl⟩
  · go_enter Tryz.func50, Tryz.ntmps50
    go_wp2
    go_ret
    exact ⟨retBool (by simp; omega), rfl⟩
theorem replica_any (n : Int) (w : World) : Calls Tryz.prog 30 #[.int .i64 n] w fun e w' => e = .returned (.bool (isRep n)) ∧ w = w' := by
  unfold isRep
  by_cases h : 0 ≤ n
  · go_enter Tryz.func30, Tryz.ntmps30
    go_wp2
    go_ret
    exact ⟨retBool (by simp; omega), rfl⟩
  · go_enter Tryz.func30, Tryz.ntmps30
    go_wp2
    go_ret
    exact ⟨retBool (by simp; omega), rfl⟩
theorem verdict_any (b : Bool) (w : World) : Calls Tryz.prog 62 #[.bool b] w fun e w' => e = .returned (.int .i64 (if b then 0 else 40)) ∧ w = w' := by
  cases b
  · go_enter Tryz.func62, Tryz.ntmps62
    go_wp2
    go_ret
    exact ⟨rfl, rfl⟩
  · go_enter Tryz.func62, Tryz.ntmps62
    go_wp2
    go_ret
    exact ⟨rfl, rfl⟩

/-- Which of two comes first: -1, 0, 1. -/
def cmpI (a b : Int) : Int := if a < b then -1 else if b < a then 1 else 0

theorem nan32 (a : Int) (w : World) : Calls Tryz.prog 134 #[.int .i32 a] w fun e w' => e = .returned (.bool false) ∧ w = w' := by
  go_enter Tryz.func134, Tryz.ntmps134
  go_wp2
  go_ret
  exact ⟨retBool (by simp), rfl⟩
theorem nan64 (a : Int) (w : World) : Calls Tryz.prog 135 #[.int .i64 a] w fun e w' => e = .returned (.bool false) ∧ w = w' := by
  go_enter Tryz.func135, Tryz.ntmps135
  go_wp2
  go_ret
  exact ⟨retBool (by simp), rfl⟩
theorem cmp32 (a b : Int) (w : World) : Calls Tryz.prog 129 #[.int .i32 a, .int .i32 b] w fun e w' => e = .returned (.int .i64 (cmpI a b)) ∧ w = w' := by
  unfold cmpI
  by_cases h1 : a < b
  · rw [if_pos h1]
    go_enter Tryz.func129, Tryz.ntmps129
    go_wp2_with (go_at_call 134; refine (nan32 _ _).mono ?_; rintro e w' ⟨rfl, rfl⟩)
    go_ret
    exact ⟨rfl, rfl⟩
  · rw [if_neg h1]
    by_cases h2 : b < a
    · rw [if_pos h2]
      go_enter Tryz.func129, Tryz.ntmps129
      go_wp2_with (go_at_call 134; refine (nan32 _ _).mono ?_; rintro e w' ⟨rfl, rfl⟩)
      go_ret
      exact ⟨rfl, rfl⟩
    · rw [if_neg h2]
      go_enter Tryz.func129, Tryz.ntmps129
      go_wp2_with (go_at_call 134; refine (nan32 _ _).mono ?_; rintro e w' ⟨rfl, rfl⟩)
      go_ret
      exact ⟨rfl, rfl⟩
theorem cmp64 (a b : Int) (w : World) : Calls Tryz.prog 130 #[.int .i64 a, .int .i64 b] w fun e w' => e = .returned (.int .i64 (cmpI a b)) ∧ w = w' := by
  unfold cmpI
  by_cases h1 : a < b
  · rw [if_pos h1]
    go_enter Tryz.func130, Tryz.ntmps130
    go_wp2_with (go_at_call 135; refine (nan64 _ _).mono ?_; rintro e w' ⟨rfl, rfl⟩)
    go_ret
    exact ⟨rfl, rfl⟩
  · rw [if_neg h1]
    by_cases h2 : b < a
    · rw [if_pos h2]
      go_enter Tryz.func130, Tryz.ntmps130
      go_wp2_with (go_at_call 135; refine (nan64 _ _).mono ?_; rintro e w' ⟨rfl, rfl⟩)
      go_ret
      exact ⟨rfl, rfl⟩
    · rw [if_neg h2]
      go_enter Tryz.func130, Tryz.ntmps130
      go_wp2_with (go_at_call 135; refine (nan64 _ _).mono ?_; rintro e w' ⟨rfl, rfl⟩)
      go_ret
      exact ⟨rfl, rfl⟩

/-- cmp.Or of two. -/
theorem or2 (b : Nat) (x y : Int) (w : World) (c0 : w.cell? ⟨b, 0, none⟩ = some (.int .i64 x)) (c1 : w.cell? ⟨b, 1, none⟩ = some (.int .i64 y)) :
    Calls Tryz.prog 128 #[.slice (some ⟨b, 0, none⟩) 2 2] w fun e w' => e = .returned (.int .i64 (if x = 0 then y else x)) ∧ w = w' := by
  go_enter Tryz.func128, Tryz.ntmps128
  go_wp2
  go_loopw [8] (fun c wr => ∃ t : Nat, t ≤ 2 ∧ c = .int .i64 t ∧ wr = w ∧ (1 ≤ t → x = 0) ∧ (2 ≤ t → y = 0)) (fun c _ => 2 - (intOf c).toNat)
  case atStart => exact ⟨0, by omega, rfl, rfl, by omega, by omega⟩
  case round =>
    obtain ⟨t, ht, rfl, rfl, h1, h2⟩ := hrel
    rcases (by omega : t = 0 ∨ t = 1 ∨ t = 2) with rfl | rfl | rfl
    · clear h1 h2
      by_cases hx : x = 0
      · go_wp2
        go_roundw
        case rel => exact ⟨1, by omega, rfl, trivial, fun _ => hx, fun h => absurd h (by omega)⟩
        case measure => simp [intOf]
      · go_wp2
        go_ret
        exact ⟨retInt (by simp), rfl⟩
    · have hx := h1 (by omega)
      clear h1 h2
      by_cases hy : y = 0
      · go_wp2
        go_roundw
        case rel => exact ⟨2, by omega, rfl, trivial, fun _ => hx, fun _ => hy⟩
        case measure => simp [intOf]
      · go_wp2
        go_ret
        exact ⟨retInt (by simp), rfl⟩
    · have hx := h1 (by omega)
      have hy := h2 (by omega)
      clear h1 h2
      go_wp2
      go_ret
      exact ⟨retInt (by simp), rfl⟩
end Go.Proofs.YtggllgimlfchhabGreat

/- Record: keys in order. -/
namespace Go.Proofs.YtggllgimlfchhabGreat
open Go.RowKit
set_option maxRecDepth 100000

def keyC (k : Int × Int) : Array Value := #[.int .i32 k.1, .int .i64 k.2]
def cmpK (a b : Int × Int) : Int := if cmpI a.1 b.1 = 0 then cmpI a.2 b.2 else cmpI a.1 b.1
def lessK (a b : Int × Int) : Bool := decide (a.1 < b.1 ∨ (a.1 = b.1 ∧ a.2 < b.2))

set_option maxHeartbeats 1600000 in
theorem compareKeys_any (a0 a1 b0 b1 : Int) (w : World) :
    Calls Tryz.prog 121 #[.agg #[.int .i32 a0, .int .i64 a1], .agg #[.int .i32 b0, .int .i64 b1]] w fun e w' => e = .returned (.int .i64 (cmpK (a0, a1) (b0, b1))) ∧ Below w.heap.size w w' := by
  have HC : Hid (∀ w' : World, Below (w.heap.size + 2) ((w.alloc (.cells #[.int .i32 a0, .int .i64 a1] 91)).alloc (.cells #[.int .i32 b0, .int .i64 b1] 91)) w' → w'.cell? ⟨w.heap.size, 0, none⟩ = some (.int .i32 a0) ∧ w'.cell? ⟨w.heap.size, 1, none⟩ = some (.int .i64 a1) ∧ w'.cell? ⟨w.heap.size + 1, 0, none⟩ = some (.int .i32 b0) ∧ w'.cell? ⟨w.heap.size + 1, 1, none⟩ = some (.int .i64 b1)) := fun w' hb => by
    have e : (w.alloc (.cells #[.int .i32 a0, .int .i64 a1] 91)).heap.size = w.heap.size + 1 := by simp
    refine ⟨?_, ?_, ?_, ?_⟩
    · rw [hb.cell (p := ⟨w.heap.size, 0, none⟩) (by simp), World.cell?_alloc_lt _ _ _ (by simp), World.cell?_alloc_new]; rfl
    · rw [hb.cell (p := ⟨w.heap.size, 1, none⟩) (by simp), World.cell?_alloc_lt _ _ _ (by simp), World.cell?_alloc_new]; rfl
    · rw [hb.cell (p := ⟨w.heap.size + 1, 0, none⟩) (by simp), ← e, World.cell?_alloc_new]; rfl
    · rw [hb.cell (p := ⟨w.heap.size + 1, 1, none⟩) (by simp), ← e, World.cell?_alloc_new]; rfl
  have HB : Hid (Below w.heap.size w ((w.alloc (.cells #[.int .i32 a0, .int .i64 a1] 91)).alloc (.cells #[.int .i32 b0, .int .i64 b1] 91))) := ((Below.refl _ _).alloc (Nat.le_refl _) _).alloc (by simp) _
  go_enter Tryz.func121, Tryz.ntmps121
  go_wp2_with fail
  have HS := hide (unhide HC _ (Below.refl (w.heap.size + 2) _).drew)
  refine wp_region_held_drew (S := fun w' => w'.cell? ⟨w.heap.size, 0, none⟩ = some (.int .i32 a0) ∧ w'.cell? ⟨w.heap.size, 1, none⟩ = some (.int .i64 a1) ∧ w'.cell? ⟨w.heap.size + 1, 0, none⟩ = some (.int .i32 b0) ∧ w'.cell? ⟨w.heap.size + 1, 1, none⟩ = some (.int .i64 b1)) (by kernel_rfl) (unhide HS) (fun hHeld => ?_)
  refine wpAnyH_take (i := 0) (v := ?v1x0) rfl (by kernel_rfl) (by kernel_rfl) (by kernel_rfl) (fun _ _ _ h => h) (Or.inl ⟨by rfl, ?hy1x0⟩) (by assumption) ?rest1x0
  case hy1x0 => intro w hSw; obtain ⟨s1, s2, s3, s4⟩ := hSw; go_simp <;> with_reducible rfl
  simp only [Act.put, List.getElem_toArray, List.getElem_cons_zero, List.setIfInBounds_toArray, List.set_cons_zero, List.set_cons_succ]
  refine wpAnyH_take (i := 1) (v := .int .i32 a0) rfl (by kernel_rfl) (by kernel_rfl) (by kernel_rfl) (fun _ _ _ h => h) (Or.inl ⟨by rfl, ?hy2x1⟩) (by assumption) ?rest2x1
  case hy2x1 => intro w hSw; obtain ⟨s1, s2, s3, s4⟩ := hSw; go_simp <;> with_reducible rfl
  simp only [Act.put, List.getElem_toArray, List.getElem_cons_zero, List.getElem_cons_succ, List.setIfInBounds_toArray, List.set_cons_zero, List.set_cons_succ]
  refine wpAnyH_take (i := 2) (v := ?v3x2) rfl (by kernel_rfl) (by kernel_rfl) (by kernel_rfl) (fun _ _ _ h => h) (Or.inl ⟨by rfl, ?hy3x2⟩) (by assumption) ?rest3x2
  case hy3x2 => intro w hSw; obtain ⟨s1, s2, s3, s4⟩ := hSw; go_simp <;> with_reducible rfl
  simp only [Act.put, List.getElem_toArray, List.getElem_cons_zero, List.getElem_cons_succ, List.setIfInBounds_toArray, List.set_cons_zero, List.set_cons_succ]
  refine wpAnyH_take (i := 3) (v := .int .i32 b0) rfl (by kernel_rfl) (by kernel_rfl) (by kernel_rfl) (fun _ _ _ h => h) (Or.inl ⟨by rfl, ?hy4x3⟩) (by assumption) ?rest4x3
  case hy4x3 => intro w hSw; obtain ⟨s1, s2, s3, s4⟩ := hSw; go_simp <;> with_reducible rfl
  simp only [Act.put, List.getElem_toArray, List.getElem_cons_zero, List.getElem_cons_succ, List.setIfInBounds_toArray, List.set_cons_zero, List.set_cons_succ]
  refine wpAnyH_take (i := 5) (v := ?v5x5) rfl (by kernel_rfl) (by kernel_rfl) (by kernel_rfl) (fun _ _ _ h => h) (Or.inl ⟨by rfl, ?hy5x5⟩) (by assumption) ?rest5x5
  case hy5x5 => intro w hSw; obtain ⟨s1, s2, s3, s4⟩ := hSw; go_simp <;> with_reducible rfl
  simp only [Act.put, List.getElem_toArray, List.getElem_cons_zero, List.getElem_cons_succ, List.setIfInBounds_toArray, List.set_cons_zero, List.set_cons_succ]
  refine wpAnyH_take (i := 6) (v := .int .i64 a1) rfl (by kernel_rfl) (by kernel_rfl) (by kernel_rfl) (fun _ _ _ h => h) (Or.inl ⟨by rfl, ?hy6x6⟩) (by assumption) ?rest6x6
  case hy6x6 => intro w hSw; obtain ⟨s1, s2, s3, s4⟩ := hSw; go_simp <;> with_reducible rfl
  simp only [Act.put, List.getElem_toArray, List.getElem_cons_zero, List.getElem_cons_succ, List.setIfInBounds_toArray, List.set_cons_zero, List.set_cons_succ]
  refine wpAnyH_take (i := 7) (v := ?v7x7) rfl (by kernel_rfl) (by kernel_rfl) (by kernel_rfl) (fun _ _ _ h => h) (Or.inl ⟨by rfl, ?hy7x7⟩) (by assumption) ?rest7x7
  case hy7x7 => intro w hSw; obtain ⟨s1, s2, s3, s4⟩ := hSw; go_simp <;> with_reducible rfl
  simp only [Act.put, List.getElem_toArray, List.getElem_cons_zero, List.getElem_cons_succ, List.setIfInBounds_toArray, List.set_cons_zero, List.set_cons_succ]
  refine wpAnyH_take (i := 8) (v := .int .i64 b1) rfl (by kernel_rfl) (by kernel_rfl) (by kernel_rfl) (fun _ _ _ h => h) (Or.inl ⟨by rfl, ?hy8x8⟩) (by assumption) ?rest8x8
  case hy8x8 => intro w hSw; obtain ⟨s1, s2, s3, s4⟩ := hSw; go_simp <;> with_reducible rfl
  simp only [Act.put, List.getElem_toArray, List.getElem_cons_zero, List.getElem_cons_succ, List.setIfInBounds_toArray, List.set_cons_zero, List.set_cons_succ]
  refine wpAnyH_ready (rs := [4]) (by kernel_rfl) (by simp) ?_
  refine AllReadyH.cons rfl (fun K hK => ?_) AllReadyH.nil
  go_simp
  refine (cmp32 a0 b0 _).mono ?_
  rintro e wq ⟨rfl, rfl⟩
  refine hK _ _ (by assumption) ?_
  clear hK hHeld
  intro hHeld
  refine wpAnyH_ready (rs := [9]) (by kernel_rfl) (by simp) ?_
  refine AllReadyH.cons rfl (fun K hK => ?_) AllReadyH.nil
  go_simp
  refine (cmp64 a1 b1 _).mono ?_
  rintro e wq ⟨rfl, rfl⟩
  refine hK _ _ (by assumption) ?_
  clear hK hHeld
  intro hHeld
  refine wpAnyH_ready (rs := [10]) (by kernel_rfl) (by simp) ?_
  refine AllReadyH.cons rfl (fun K hK => ?_) AllReadyH.nil
  go_simp
  refine hK _ _ (unhide HC _ ((Below.refl (w.heap.size + 2) _).alloc (by simp) _).drew) ?_
  clear hK hHeld
  intro hHeld
  have HO := hide (or2 (w.heap.size + 1 + 1) (cmpI a0 b0) (cmpI a1 b1) ((((w.alloc (.cells #[.int .i32 a0, .int .i64 a1] 91)).alloc (.cells #[.int .i32 b0, .int .i64 b1] 91)).alloc (.cells #[.int .i64 (cmpI a0 b0), .int .i64 (cmpI a1 b1)] 3)).drew)
    (by have := World.cell?_alloc_new ((w.alloc (.cells #[.int .i32 a0, .int .i64 a1] 91)).alloc (.cells #[.int .i32 b0, .int .i64 b1] 91)) #[.int .i64 (cmpI a0 b0), .int .i64 (cmpI a1 b1)] 3 0; simpa using this)
    (by have := World.cell?_alloc_new ((w.alloc (.cells #[.int .i32 a0, .int .i64 a1] 91)).alloc (.cells #[.int .i32 b0, .int .i64 b1] 91)) #[.int .i64 (cmpI a0 b0), .int .i64 (cmpI a1 b1)] 3 1; simpa using this))
  obtain ⟨r, hr⟩ : ∃ r, (if cmpI a0 b0 = 0 then cmpI a1 b1 else cmpI a0 b0) = r := ⟨_, rfl⟩
  rw [hr] at HO
  have HR := hide hr
  clear hr
  refine wpAnyH_ready (rs := [11]) (by kernel_rfl) (by simp) ?_
  refine AllReadyH.cons rfl (fun K hK => ?_) AllReadyH.nil
  go_simp
  refine (unhide HO).mono ?_
  rintro e wq ⟨rfl, rfl⟩
  refine hK _ _ (by assumption) ?_
  clear hK hHeld
  intro hHeld
  refine wpAnyH_take (i := 12) (v := ?v9x12) rfl (by kernel_rfl) (by kernel_rfl) (by kernel_rfl) (fun _ _ _ h => h) (Or.inl ⟨by rfl, ?hy9x12⟩) (by assumption) ?rest9x12
  case hy9x12 => intro w hSw; obtain ⟨s1, s2, s3, s4⟩ := hSw; go_simp <;> with_reducible rfl
  simp only [Act.put, List.getElem_toArray, List.getElem_cons_zero, List.getElem_cons_succ, List.setIfInBounds_toArray, List.set_cons_zero, List.set_cons_succ]
  refine wpAnyH_done (by kernel_rfl) ?_ _
  go_wp2
  go_ret
  exact ⟨retInt (unhide HR).symm, ((unhide HB).alloc (by simp; omega) _).drew⟩

theorem cmpK_less (a b : Int × Int) : decide (cmpK a b ≥ 0) = !lessK a b := by
  unfold cmpK cmpI lessK
  (repeat' split) <;> simp <;> omega

set_option maxHeartbeats 800000 in
theorem less_any (a0 a1 b0 b1 : Int) (w : World) :
    Calls Tryz.prog 96 #[.agg #[.int .i32 a0, .int .i64 a1], .agg #[.int .i32 b0, .int .i64 b1]] w fun e w' => e = .returned (.bool (lessK (a0, a1) (b0, b1))) ∧ Below w.heap.size w w' := by
  unfold lessK
  by_cases h1 : a0 < b0
  · go_enter Tryz.func96, Tryz.ntmps96
    go_wp2
    go_ret
    exact ⟨retBool (by simp; omega), ((Below.refl _ _).alloc (Nat.le_refl _) _).alloc (by simp) _⟩
  · by_cases h2 : a0 = b0
    · subst h2
      go_enter Tryz.func96, Tryz.ntmps96
      go_wp2
      go_ret
      exact ⟨retBool (by simp), ((Below.refl _ _).alloc (Nat.le_refl _) _).alloc (by simp) _⟩
    · go_enter Tryz.func96, Tryz.ntmps96
      go_wp2
      go_ret
      exact ⟨retBool (by simp; omega), ((Below.refl _ _).alloc (Nat.le_refl _) _).alloc (by simp) _⟩
end Go.Proofs.YtggllgimlfchhabGreat

/- Record: keys that may be. -/
namespace Go.Proofs.YtggllgimlfchhabGreat
open Go.RowKit
set_option maxRecDepth 100000

/-- A slice of keys. -/
def SeesK (w : World) (v : Value) (l : List (Int × Int)) : Prop :=
  ∃ ao cap gb ob, v = .slice ao l.length cap ∧ l.length ≤ cap ∧ l.length ≤ 9223372036854775807 ∧ (0 < l.length → ao = some ⟨gb, ob, none⟩) ∧ ∀ t, t < l.length → w.cell? ⟨gb, ob + t * 2, none⟩ = some (.int .i32 (l.getD t (0, 0)).1) ∧ w.cell? ⟨gb, ob + t * 2 + 1, none⟩ = some (.int .i64 (l.getD t (0, 0)).2)
theorem SeesK.below {w w' : World} {v : Value} {l : List (Int × Int)} (h : SeesK w v l) (hb : Below w.heap.size w w') : SeesK w' v l := by
  obtain ⟨ao, cap, gb, ob, h1, h2, h3, h4, h5⟩ := h
  refine ⟨ao, cap, gb, ob, h1, h2, h3, h4, fun t ht => ?_⟩
  have c : ∀ o u, w.cell? ⟨gb, o, none⟩ = some u → w'.cell? ⟨gb, o, none⟩ = some u := fun o u h => (hb.cell (p := ⟨gb, o, none⟩) (World.block_lt_of_cell? w _ h)).trans h
  exact ⟨c _ _ (h5 t ht).1, c _ _ (h5 t ht).2⟩

def ordL : List (Int × Int) → Bool
  | a :: b :: r => lessK a b && ordL (b :: r)
  | _ => true
theorem ordL_iff : ∀ l : List (Int × Int), ordL l = true ↔ ∀ t, t + 1 < l.length → lessK (l.getD t (0, 0)) (l.getD (t + 1) (0, 0)) = true
  | [] => by simp [ordL]
  | [a] => by simp [ordL]
  | a :: b :: r => by
    simp only [ordL, Bool.and_eq_true]
    rw [ordL_iff (b :: r)]
    constructor
    · rintro ⟨h1, h2⟩ t ht
      cases t with
      | zero => exact h1
      | succ t => exact h2 t (by simpa using ht)
    · intro h
      exact ⟨h 0 (by simp), fun t ht => h (t + 1) (by simpa using ht)⟩
/-- Which keys may be. -/
def mayK (l : List (Int × Int)) : Bool := decide (l.length ≤ 16) && ordL l
theorem mayK_no {l : List (Int × Int)} {t : Nat} (h : t + 1 < l.length) (hl : lessK (l.getD t (0, 0)) (l.getD (t + 1) (0, 0)) = false) : mayK l = false := by
  unfold mayK
  rw [Bool.and_eq_false_iff]
  right
  cases ho : ordL l with
  | false => rfl
  | true => rw [(ordL_iff l).1 ho t h] at hl; cases hl
theorem mayK_of {l : List (Int × Int)} (h : ∀ t, t + 1 < l.length → lessK (l.getD t (0, 0)) (l.getD (t + 1) (0, 0)) = true) : mayK l = decide (l.length ≤ 16) := by
  unfold mayK
  rw [(ordL_iff l).2 h, Bool.and_true]
theorem wrap_i64 (x : Int) (h1 : -9223372036854775808 ≤ x) (h2 : x ≤ 9223372036854775807) : IntKind.i64.wrap x = x := by
  simp [IntKind.wrap, IntKind.signed, IntKind.bits]
  omega

set_option maxHeartbeats 3200000 in
theorem keysMayBe_any (v : Value) (l : List (Int × Int)) (w : World) (hs : SeesK w v l) :
    Calls Tryz.prog 84 #[v] w fun e w' => e = .returned (.bool (mayK l)) ∧ Below w.heap.size w w' := by
  have HS : Hid (∀ w', Below w.heap.size w w' → SeesK w' v l) := fun w' hb => hs.below hb
  obtain ⟨ao, cap, _, _, rfl, hcap, hmax, _⟩ := id hs
  clear hs
  by_cases h16 : 16 < l.length
  · have hm : mayK l = false := by unfold mayK; rw [Bool.and_eq_false_iff]; left; simp; omega
    rw [hm]
    go_enter Tryz.func84, Tryz.ntmps84
    go_wp2
    go_ret
    exact ⟨rfl, Below.refl _ _⟩
  go_enter Tryz.func84, Tryz.ntmps84
  go_wp2
  go_loopw [3] (fun c wr => ∃ t : Nat, 1 ≤ t ∧ (t ≤ l.length ∨ t = 1) ∧ c = .int .i64 t ∧ (∀ u, u + 1 < t → lessK (l.getD u (0, 0)) (l.getD (u + 1) (0, 0)) = true) ∧ Below w.heap.size w wr) (fun c _ => l.length - (intOf c).toNat)
  case atStart => exact ⟨1, by omega, .inr rfl, rfl, fun u hu => absurd hu (by omega), Below.refl _ _⟩
  case round =>
    obtain ⟨t, h1, h2, rfl, hord, hb⟩ := hrel
    by_cases hlt : t < l.length
    · obtain ⟨ao', cap', gb, ob, hv, _, _, hao, hcl⟩ := unhide HS wr hb
      simp only [Value.slice.injEq, true_and] at hv
      obtain ⟨rfl, rfl⟩ := hv
      obtain rfl := hao (by omega)
      have HCl : Hid (∀ w', Below wr.heap.size wr w' → (w'.cell? ⟨gb, ob + (t - 1) * 2, none⟩ = some (.int .i32 (l.getD (t - 1) (0, 0)).1) ∧ w'.cell? ⟨gb, ob + (t - 1) * 2 + 1, none⟩ = some (.int .i64 (l.getD (t - 1) (0, 0)).2) ∧ w'.cell? ⟨gb, ob + t * 2, none⟩ = some (.int .i32 (l.getD t (0, 0)).1) ∧ w'.cell? ⟨gb, ob + t * 2 + 1, none⟩ = some (.int .i64 (l.getD t (0, 0)).2))) := fun w' hb' => by
        have c : ∀ o u, wr.cell? ⟨gb, o, none⟩ = some u → w'.cell? ⟨gb, o, none⟩ = some u := fun o u h => (hb'.cell (p := ⟨gb, o, none⟩) (World.block_lt_of_cell? wr _ h)).trans h
        exact ⟨c _ _ (hcl (t - 1) (by omega)).1, c _ _ (hcl (t - 1) (by omega)).2, c _ _ (hcl t hlt).1, c _ _ (hcl t hlt).2⟩
      have HO := hide hord
      have HB := hide hb
      clear hcl hao hord hb
      obtain ⟨k0, hk0⟩ : ∃ k, l.getD (t - 1) (0, 0) = k := ⟨_, rfl⟩
      obtain ⟨k1, hk1⟩ : ∃ k, l.getD t (0, 0) = k := ⟨_, rfl⟩
      rw [hk0, hk1] at HCl
      have HK0 := hide hk0
      have HK1 := hide hk1
      clear hk0 hk1
      obtain ⟨a0, a1⟩ := k0
      obtain ⟨b0, b1⟩ := k1
      simp only at HCl
      have hwr : IntKind.i64.wrap ((t : Int) - 1) = ((t - 1 : Nat) : Int) := by rw [wrap_i64 _ (by omega) (by omega)]; omega
      have hlt0 : t - 1 < l.length := by omega
      go_wp2_with fail
      refine wp_region_held_drew (S := fun w' => w'.cell? ⟨gb, ob + (t - 1) * 2, none⟩ = some (.int .i32 a0) ∧ w'.cell? ⟨gb, ob + (t - 1) * 2 + 1, none⟩ = some (.int .i64 a1) ∧ w'.cell? ⟨gb, ob + t * 2, none⟩ = some (.int .i32 b0) ∧ w'.cell? ⟨gb, ob + t * 2 + 1, none⟩ = some (.int .i64 b1)) (by kernel_rfl) (unhide HCl _ (Below.refl _ _).drew) (fun hHeld => ?_)
      refine wpAnyH_take (i := 0) (v := ?v1x0) rfl (by kernel_rfl) (by kernel_rfl) (by kernel_rfl) (fun _ _ _ h => h) (Or.inl ⟨by rfl, ?hy1x0⟩) (by assumption) ?rest1x0
      case hy1x0 => intro w hSw; obtain ⟨s1, s2, s3, s4⟩ := hSw; go_simp <;> with_reducible rfl
      simp only [Act.put, List.getElem_toArray, List.getElem_cons_zero, List.setIfInBounds_toArray, List.set_cons_zero, List.set_cons_succ]
      refine wpAnyH_take (i := 1) (v := ?v2x1) rfl (by kernel_rfl) (by kernel_rfl) (by kernel_rfl) (fun _ _ _ h => h) (Or.inl ⟨by rfl, ?hy2x1⟩) (by assumption) ?rest2x1
      case hy2x1 => intro w hSw; obtain ⟨s1, s2, s3, s4⟩ := hSw; go_simp <;> with_reducible rfl
      simp only [Act.put, List.getElem_toArray, List.getElem_cons_zero, List.getElem_cons_succ, List.setIfInBounds_toArray, List.set_cons_zero, List.set_cons_succ]
      refine wpAnyH_take (i := 2) (v := .int .i64 ((t - 1 : Nat) : Int)) rfl (by kernel_rfl) (by kernel_rfl) (by kernel_rfl) (fun _ _ _ h => h) (Or.inl ⟨by rfl, ?hy3x2⟩) (by assumption) ?rest3x2
      case hy3x2 => intro w hSw; obtain ⟨s1, s2, s3, s4⟩ := hSw; go_simp <;> with_reducible rfl
      simp only [Act.put, List.getElem_toArray, List.getElem_cons_zero, List.getElem_cons_succ, List.setIfInBounds_toArray, List.set_cons_zero, List.set_cons_succ]
      refine wpAnyH_take (i := 3) (v := ?v4x3) rfl (by kernel_rfl) (by kernel_rfl) (by kernel_rfl) (fun _ _ _ h => h) (Or.inl ⟨by rfl, ?hy4x3⟩) (by assumption) ?rest4x3
      case hy4x3 => intro w hSw; obtain ⟨s1, s2, s3, s4⟩ := hSw; go_simp <;> with_reducible rfl
      simp only [Act.put, List.getElem_toArray, List.getElem_cons_zero, List.getElem_cons_succ, List.setIfInBounds_toArray, List.set_cons_zero, List.set_cons_succ]
      refine wpAnyH_take (i := 4) (v := .agg #[.int .i32 a0, .int .i64 a1]) rfl (by kernel_rfl) (by kernel_rfl) (by kernel_rfl) (fun _ _ _ h => h) (Or.inl ⟨by rfl, ?hy5x4⟩) (by assumption) ?rest5x4
      case hy5x4 => intro w hSw; obtain ⟨s1, s2, s3, s4⟩ := hSw; go_simp <;> with_reducible rfl
      simp only [Act.put, List.getElem_toArray, List.getElem_cons_zero, List.getElem_cons_succ, List.setIfInBounds_toArray, List.set_cons_zero, List.set_cons_succ]
      refine wpAnyH_take (i := 5) (v := ?v6x5) rfl (by kernel_rfl) (by kernel_rfl) (by kernel_rfl) (fun _ _ _ h => h) (Or.inl ⟨by rfl, ?hy6x5⟩) (by assumption) ?rest6x5
      case hy6x5 => intro w hSw; obtain ⟨s1, s2, s3, s4⟩ := hSw; go_simp <;> with_reducible rfl
      simp only [Act.put, List.getElem_toArray, List.getElem_cons_zero, List.getElem_cons_succ, List.setIfInBounds_toArray, List.set_cons_zero, List.set_cons_succ]
      refine wpAnyH_take (i := 6) (v := ?v7x6) rfl (by kernel_rfl) (by kernel_rfl) (by kernel_rfl) (fun _ _ _ h => h) (Or.inl ⟨by rfl, ?hy7x6⟩) (by assumption) ?rest7x6
      case hy7x6 => intro w hSw; obtain ⟨s1, s2, s3, s4⟩ := hSw; go_simp <;> with_reducible rfl
      simp only [Act.put, List.getElem_toArray, List.getElem_cons_zero, List.getElem_cons_succ, List.setIfInBounds_toArray, List.set_cons_zero, List.set_cons_succ]
      refine wpAnyH_take (i := 7) (v := ?v8x7) rfl (by kernel_rfl) (by kernel_rfl) (by kernel_rfl) (fun _ _ _ h => h) (Or.inl ⟨by rfl, ?hy8x7⟩) (by assumption) ?rest8x7
      case hy8x7 => intro w hSw; obtain ⟨s1, s2, s3, s4⟩ := hSw; go_simp <;> with_reducible rfl
      simp only [Act.put, List.getElem_toArray, List.getElem_cons_zero, List.getElem_cons_succ, List.setIfInBounds_toArray, List.set_cons_zero, List.set_cons_succ]
      refine wpAnyH_take (i := 8) (v := .agg #[.int .i32 b0, .int .i64 b1]) rfl (by kernel_rfl) (by kernel_rfl) (by kernel_rfl) (fun _ _ _ h => h) (Or.inl ⟨by rfl, ?hy9x8⟩) (by assumption) ?rest9x8
      case hy9x8 => intro w hSw; obtain ⟨s1, s2, s3, s4⟩ := hSw; go_simp <;> with_reducible rfl
      simp only [Act.put, List.getElem_toArray, List.getElem_cons_zero, List.getElem_cons_succ, List.setIfInBounds_toArray, List.set_cons_zero, List.set_cons_succ]
      refine wpAnyH_ready (rs := [9]) (by kernel_rfl) (by simp) ?_
      refine AllReadyH.cons rfl (fun K hK => ?_) AllReadyH.nil
      go_simp
      refine (compareKeys_any a0 a1 b0 b1 _).mono ?_
      rintro e wq ⟨rfl, hb2⟩
      refine hK _ _ (unhide HCl _ ((Below.refl _ _).drew.trans hb2)) ?_
      clear hK hHeld
      have HB2 : Hid (Below w.heap.size w _) := (unhide HB).trans (((Below.refl _ _).drew.trans hb2).mono (unhide HB).size)
      clear hb2
      intro hHeld
      obtain ⟨r, hr⟩ : ∃ r, cmpK (a0, a1) (b0, b1) = r := ⟨_, rfl⟩
      have hge := cmpK_less (a0, a1) (b0, b1)
      rw [hr] at hge ⊢
      clear hr
      refine wpAnyH_take (i := 10) (v := .bool (!lessK (a0, a1) (b0, b1))) rfl (by kernel_rfl) (by kernel_rfl) (by kernel_rfl) (fun _ _ _ h => h) (Or.inl ⟨by rfl, ?hy10x10⟩) (by assumption) ?rest10x10
      case hy10x10 => intro w hSw; obtain ⟨s1, s2, s3, s4⟩ := hSw; go_simp <;> with_reducible rfl
      simp only [Act.put, List.getElem_toArray, List.getElem_cons_zero, List.getElem_cons_succ, List.setIfInBounds_toArray, List.set_cons_zero, List.set_cons_succ]
      refine wpAnyH_done (by kernel_rfl) ?_ _
      cases hlk : lessK (a0, a1) (b0, b1) with
      | false =>
        go_wp2
        go_ret
        refine ⟨retBool (mayK_no (t := t - 1) (by omega) ?_).symm, unhide HB2⟩
        rw [unhide HK0, show t - 1 + 1 = t by omega, unhide HK1]
        exact hlk
      | true =>
        go_wp2
        go_roundw
        case rel =>
          refine ⟨t + 1, by omega, .inl (by omega), by go_num, fun u hu => ?_, unhide HB2⟩
          by_cases hut : u + 1 < t
          · exact unhide HO u hut
          · obtain rfl : u = t - 1 := by omega
            rw [unhide HK0, show t - 1 + 1 = t by omega, unhide HK1]
            exact hlk
        case measure => simp [intOf]; omega
    · have HO := hide hord
      have HB := hide hb
      clear hord hb
      go_wp2
      go_ret
      refine ⟨retBool ?_, unhide HB⟩
      rw [mayK_of (fun u hu => unhide HO u (by omega))]
      simp; omega

set_option maxHeartbeats 3200000 in
theorem mayKeys_any (v : Value) (l : List (Int × Int)) (w : World) (hs : SeesK w v l) :
    Calls Tryz.prog 65 #[v] w fun e w' => e = .returned (.bool (mayK l)) ∧ Below w.heap.size w w' := by
  have HS : Hid (∀ w', Below w.heap.size w w' → SeesK w' v l) := fun w' hb => hs.below hb
  obtain ⟨ao, cap, _, _, rfl, hcap, hmax, _⟩ := id hs
  clear hs
  go_enter Tryz.func65, Tryz.ntmps65
  go_wp2
  go_loopw [3] (fun c wr => ∃ t : Nat, 1 ≤ t ∧ (t ≤ l.length ∨ t = 1) ∧ c = .int .i64 t ∧ (∀ u, u + 1 < t → lessK (l.getD u (0, 0)) (l.getD (u + 1) (0, 0)) = true) ∧ Below w.heap.size w wr) (fun c _ => l.length - (intOf c).toNat)
  case atStart => exact ⟨1, by omega, .inr rfl, rfl, fun u hu => absurd hu (by omega), Below.refl _ _⟩
  case round =>
    obtain ⟨t, h1, h2, rfl, hord, hb⟩ := hrel
    by_cases hlt : t < l.length
    · obtain ⟨ao', cap', gb, ob, hv, _, _, hao, hcl⟩ := unhide HS wr hb
      simp only [Value.slice.injEq, true_and] at hv
      obtain ⟨rfl, rfl⟩ := hv
      obtain rfl := hao (by omega)
      have HCl : Hid (∀ w', Below wr.heap.size wr w' → (w'.cell? ⟨gb, ob + (t - 1) * 2, none⟩ = some (.int .i32 (l.getD (t - 1) (0, 0)).1) ∧ w'.cell? ⟨gb, ob + (t - 1) * 2 + 1, none⟩ = some (.int .i64 (l.getD (t - 1) (0, 0)).2) ∧ w'.cell? ⟨gb, ob + t * 2, none⟩ = some (.int .i32 (l.getD t (0, 0)).1) ∧ w'.cell? ⟨gb, ob + t * 2 + 1, none⟩ = some (.int .i64 (l.getD t (0, 0)).2))) := fun w' hb' => by
        have c : ∀ o u, wr.cell? ⟨gb, o, none⟩ = some u → w'.cell? ⟨gb, o, none⟩ = some u := fun o u h => (hb'.cell (p := ⟨gb, o, none⟩) (World.block_lt_of_cell? wr _ h)).trans h
        exact ⟨c _ _ (hcl (t - 1) (by omega)).1, c _ _ (hcl (t - 1) (by omega)).2, c _ _ (hcl t hlt).1, c _ _ (hcl t hlt).2⟩
      have HO := hide hord
      have HB := hide hb
      clear hcl hao hord hb
      obtain ⟨k0, hk0⟩ : ∃ k, l.getD (t - 1) (0, 0) = k := ⟨_, rfl⟩
      obtain ⟨k1, hk1⟩ : ∃ k, l.getD t (0, 0) = k := ⟨_, rfl⟩
      rw [hk0, hk1] at HCl
      have HK0 := hide hk0
      have HK1 := hide hk1
      clear hk0 hk1
      obtain ⟨a0, a1⟩ := k0
      obtain ⟨b0, b1⟩ := k1
      simp only at HCl
      have hwr : IntKind.i64.wrap ((t : Int) - 1) = ((t - 1 : Nat) : Int) := by rw [wrap_i64 _ (by omega) (by omega)]; omega
      have hlt0 : t - 1 < l.length := by omega
      go_wp2_with fail
      refine wp_region_held_drew (S := fun w' => w'.cell? ⟨gb, ob + (t - 1) * 2, none⟩ = some (.int .i32 a0) ∧ w'.cell? ⟨gb, ob + (t - 1) * 2 + 1, none⟩ = some (.int .i64 a1) ∧ w'.cell? ⟨gb, ob + t * 2, none⟩ = some (.int .i32 b0) ∧ w'.cell? ⟨gb, ob + t * 2 + 1, none⟩ = some (.int .i64 b1)) (by kernel_rfl) (unhide HCl _ (Below.refl _ _).drew) (fun hHeld => ?_)
      refine wpAnyH_take (i := 0) (v := ?v11x0) rfl (by kernel_rfl) (by kernel_rfl) (by kernel_rfl) (fun _ _ _ h => h) (Or.inl ⟨by rfl, ?hy11x0⟩) (by assumption) ?rest11x0
      case hy11x0 => intro w hSw; obtain ⟨s1, s2, s3, s4⟩ := hSw; go_simp <;> with_reducible rfl
      simp only [Act.put, List.getElem_toArray, List.getElem_cons_zero, List.setIfInBounds_toArray, List.set_cons_zero, List.set_cons_succ]
      refine wpAnyH_take (i := 1) (v := ?v12x1) rfl (by kernel_rfl) (by kernel_rfl) (by kernel_rfl) (fun _ _ _ h => h) (Or.inl ⟨by rfl, ?hy12x1⟩) (by assumption) ?rest12x1
      case hy12x1 => intro w hSw; obtain ⟨s1, s2, s3, s4⟩ := hSw; go_simp <;> with_reducible rfl
      simp only [Act.put, List.getElem_toArray, List.getElem_cons_zero, List.getElem_cons_succ, List.setIfInBounds_toArray, List.set_cons_zero, List.set_cons_succ]
      refine wpAnyH_take (i := 2) (v := .int .i64 ((t - 1 : Nat) : Int)) rfl (by kernel_rfl) (by kernel_rfl) (by kernel_rfl) (fun _ _ _ h => h) (Or.inl ⟨by rfl, ?hy13x2⟩) (by assumption) ?rest13x2
      case hy13x2 => intro w hSw; obtain ⟨s1, s2, s3, s4⟩ := hSw; go_simp <;> with_reducible rfl
      simp only [Act.put, List.getElem_toArray, List.getElem_cons_zero, List.getElem_cons_succ, List.setIfInBounds_toArray, List.set_cons_zero, List.set_cons_succ]
      refine wpAnyH_take (i := 3) (v := ?v14x3) rfl (by kernel_rfl) (by kernel_rfl) (by kernel_rfl) (fun _ _ _ h => h) (Or.inl ⟨by rfl, ?hy14x3⟩) (by assumption) ?rest14x3
      case hy14x3 => intro w hSw; obtain ⟨s1, s2, s3, s4⟩ := hSw; go_simp <;> with_reducible rfl
      simp only [Act.put, List.getElem_toArray, List.getElem_cons_zero, List.getElem_cons_succ, List.setIfInBounds_toArray, List.set_cons_zero, List.set_cons_succ]
      refine wpAnyH_take (i := 4) (v := .agg #[.int .i32 a0, .int .i64 a1]) rfl (by kernel_rfl) (by kernel_rfl) (by kernel_rfl) (fun _ _ _ h => h) (Or.inl ⟨by rfl, ?hy15x4⟩) (by assumption) ?rest15x4
      case hy15x4 => intro w hSw; obtain ⟨s1, s2, s3, s4⟩ := hSw; go_simp <;> with_reducible rfl
      simp only [Act.put, List.getElem_toArray, List.getElem_cons_zero, List.getElem_cons_succ, List.setIfInBounds_toArray, List.set_cons_zero, List.set_cons_succ]
      refine wpAnyH_take (i := 5) (v := ?v16x5) rfl (by kernel_rfl) (by kernel_rfl) (by kernel_rfl) (fun _ _ _ h => h) (Or.inl ⟨by rfl, ?hy16x5⟩) (by assumption) ?rest16x5
      case hy16x5 => intro w hSw; obtain ⟨s1, s2, s3, s4⟩ := hSw; go_simp <;> with_reducible rfl
      simp only [Act.put, List.getElem_toArray, List.getElem_cons_zero, List.getElem_cons_succ, List.setIfInBounds_toArray, List.set_cons_zero, List.set_cons_succ]
      refine wpAnyH_take (i := 6) (v := ?v17x6) rfl (by kernel_rfl) (by kernel_rfl) (by kernel_rfl) (fun _ _ _ h => h) (Or.inl ⟨by rfl, ?hy17x6⟩) (by assumption) ?rest17x6
      case hy17x6 => intro w hSw; obtain ⟨s1, s2, s3, s4⟩ := hSw; go_simp <;> with_reducible rfl
      simp only [Act.put, List.getElem_toArray, List.getElem_cons_zero, List.getElem_cons_succ, List.setIfInBounds_toArray, List.set_cons_zero, List.set_cons_succ]
      refine wpAnyH_take (i := 7) (v := ?v18x7) rfl (by kernel_rfl) (by kernel_rfl) (by kernel_rfl) (fun _ _ _ h => h) (Or.inl ⟨by rfl, ?hy18x7⟩) (by assumption) ?rest18x7
      case hy18x7 => intro w hSw; obtain ⟨s1, s2, s3, s4⟩ := hSw; go_simp <;> with_reducible rfl
      simp only [Act.put, List.getElem_toArray, List.getElem_cons_zero, List.getElem_cons_succ, List.setIfInBounds_toArray, List.set_cons_zero, List.set_cons_succ]
      refine wpAnyH_take (i := 8) (v := .agg #[.int .i32 b0, .int .i64 b1]) rfl (by kernel_rfl) (by kernel_rfl) (by kernel_rfl) (fun _ _ _ h => h) (Or.inl ⟨by rfl, ?hy19x8⟩) (by assumption) ?rest19x8
      case hy19x8 => intro w hSw; obtain ⟨s1, s2, s3, s4⟩ := hSw; go_simp <;> with_reducible rfl
      simp only [Act.put, List.getElem_toArray, List.getElem_cons_zero, List.getElem_cons_succ, List.setIfInBounds_toArray, List.set_cons_zero, List.set_cons_succ]
      refine wpAnyH_ready (rs := [9]) (by kernel_rfl) (by simp) ?_
      refine AllReadyH.cons rfl (fun K hK => ?_) AllReadyH.nil
      go_simp
      refine (less_any a0 a1 b0 b1 _).mono ?_
      rintro e wq ⟨rfl, hb2⟩
      refine hK _ _ (unhide HCl _ ((Below.refl _ _).drew.trans hb2)) ?_
      clear hK hHeld
      have HB2 : Hid (Below w.heap.size w _) := (unhide HB).trans (((Below.refl _ _).drew.trans hb2).mono (unhide HB).size)
      clear hb2
      intro hHeld
      refine wpAnyH_take (i := 10) (v := .bool (!lessK (a0, a1) (b0, b1))) rfl (by kernel_rfl) (by kernel_rfl) (by kernel_rfl) (fun _ _ _ h => h) (Or.inl ⟨by rfl, ?hy20x10⟩) (by assumption) ?rest20x10
      case hy20x10 => intro w hSw; obtain ⟨s1, s2, s3, s4⟩ := hSw; go_simp <;> with_reducible rfl
      simp only [Act.put, List.getElem_toArray, List.getElem_cons_zero, List.getElem_cons_succ, List.setIfInBounds_toArray, List.set_cons_zero, List.set_cons_succ]
      refine wpAnyH_done (by kernel_rfl) ?_ _
      cases hlk : lessK (a0, a1) (b0, b1) with
      | false =>
        go_wp2
        go_ret
        refine ⟨retBool (mayK_no (t := t - 1) (by omega) ?_).symm, unhide HB2⟩
        rw [unhide HK0, show t - 1 + 1 = t by omega, unhide HK1]
        exact hlk
      | true =>
        go_wp2
        go_roundw
        case rel =>
          refine ⟨t + 1, by omega, .inl (by omega), by go_num, fun u hu => ?_, unhide HB2⟩
          by_cases hut : u + 1 < t
          · exact unhide HO u hut
          · obtain rfl : u = t - 1 := by omega
            rw [unhide HK0, show t - 1 + 1 = t by omega, unhide HK1]
            exact hlk
        case measure => simp [intOf]; omega
    · have HO := hide hord
      have HB := hide hb
      clear hord hb
      go_wp2
      go_ret
      refine ⟨retBool ?_, unhide HB⟩
      rw [mayK_of (fun u hu => unhide HO u (by omega))]
      simp; try omega
end Go.Proofs.YtggllgimlfchhabGreat
