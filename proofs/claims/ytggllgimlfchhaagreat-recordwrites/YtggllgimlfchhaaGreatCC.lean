/- Record: the fields of a message. -/
import Derived.Test.YtggllgimlfchhaaGreatGC
import Derived.Test.YtggllgimlfchhaaGreatMB1
import Derived.Test.YtggllgimlfchhaaGreatMB2
namespace Go.Proofs.YtggllgimlfchhaaGreat
open Go.RowKit
set_option maxRecDepth 100000

def dP : PtD := ⟨0, 0, 0, []⟩
/-- Which fields a message of a kind has. -/
def fieldsL (k : Int) : List Int := if k = 1 then [0, 1, 2] else if k = 2 then [0, 4] else if k = 3 then [0, 1, 2, 3, 5] else if k = 4 then [0, 4, 1] else if k = 5 then [0, 1, 2, 7] else if k = 6 then [6] else []
theorem sees_fresh (w : World) (T : TypeId) (zs : List Int) : Sees (w.alloc (.cells (zs.map (Value.int .i64)).toArray T)) .i64 (.slice (some ⟨w.heap.size, 0, none⟩) zs.length zs.length) zs := by
  refine ⟨some ⟨w.heap.size, 0, none⟩, zs.length, rfl, Nat.le_refl _, (fun h => by cases h), fun a h t ht => ?_⟩
  obtain rfl := Option.some.inj h
  have := heap_alloc_new w (.cells (zs.map (Value.int .i64)).toArray T)
  rw [Addr.add_mid, cell_of_row _ _ _ _ _ _ this]
  simp [List.getD, ht]
set_option maxHeartbeats 800000 in
theorem fieldsOf_any (k : Int) (w : World) : Calls Tryz.prog 65 #[.int .i64 k] w fun e w' => ∃ v, e = .returned v ∧ Sees w' .i64 v (fieldsL k) ∧ Below w.heap.size w w' := by
  by_cases h1 : k = 1
  case pos =>
    subst h1
    go_enter Tryz.func65, Tryz.ntmps65
    go_wp2
    go_ret
    exact ⟨_, rfl, sees_fresh w 97 [0, 1, 2], (Below.refl _ _).alloc (Nat.le_refl _) _⟩
  by_cases h2 : k = 2
  case pos =>
    subst h2
    go_enter Tryz.func65, Tryz.ntmps65
    go_wp2
    go_ret
    exact ⟨_, rfl, sees_fresh w 97 [0, 4], (Below.refl _ _).alloc (Nat.le_refl _) _⟩
  by_cases h3 : k = 3
  case pos =>
    subst h3
    go_enter Tryz.func65, Tryz.ntmps65
    go_wp2
    go_ret
    exact ⟨_, rfl, sees_fresh w 97 [0, 1, 2, 3, 5], (Below.refl _ _).alloc (Nat.le_refl _) _⟩
  by_cases h4 : k = 4
  case pos =>
    subst h4
    go_enter Tryz.func65, Tryz.ntmps65
    go_wp2
    go_ret
    exact ⟨_, rfl, sees_fresh w 97 [0, 4, 1], (Below.refl _ _).alloc (Nat.le_refl _) _⟩
  by_cases h5 : k = 5
  case pos =>
    subst h5
    go_enter Tryz.func65, Tryz.ntmps65
    go_wp2
    go_ret
    exact ⟨_, rfl, sees_fresh w 97 [0, 1, 2, 7], (Below.refl _ _).alloc (Nat.le_refl _) _⟩
  by_cases h6 : k = 6
  case pos =>
    subst h6
    go_enter Tryz.func65, Tryz.ntmps65
    go_wp2
    go_ret
    exact ⟨_, rfl, sees_fresh w 97 [6], (Below.refl _ _).alloc (Nat.le_refl _) _⟩
  case neg =>
    go_enter Tryz.func65, Tryz.ntmps65
    go_wp2
    go_ret
    refine ⟨_, rfl, ?_, Below.refl _ _⟩
    simp only [fieldsL, h1, h2, h3, h4, h5, h6, if_false]
    exact Sees.nil _ _
/-- May a field be? -/
def fMay (f : Int) (m : MsgD) : Bool :=
  if f = 0 then isCnt m.term else if f = 1 then isCnt m.slot else if f = 2 then isCnt m.last else if f = 3 then isCnt m.commit else if f = 4 then true else if f = 5 then decide (m.list.length ≤ 4096) && m.list.all mayTm else if f = 6 then mayE m.ent else if f = 7 then mayP m.part else false
set_option maxHeartbeats 1600000 in
theorem fieldMayBe_any (cs : Array Value) (m : MsgD) (f : Int) (w : World) (hM : SeesM w cs m) (oM : OkM m) (hf0 : 0 ≤ f) (hf7 : f ≤ 7) :
    Calls Tryz.prog 66 #[.agg cs, .int .i64 f] w fun e w' => e = .returned (.bool (fMay f m)) ∧ Below w.heap.size w w' := by
  obtain ⟨aK, aF, aO, aT, aS, aL, aC, aY, ml, ⟨ek, ef, en, mt⟩, ⟨ps, pi, pm, md⟩⟩ := m
  obtain ⟨_, _, _, rfl, k1, k2, k3⟩ := hM
  obtain ⟨o1, o2, o3⟩ := oM
  simp only at k1 k2 k3 o1 o2 o3 ⊢
  have K1 := hide k1
  have K2 := hide k2
  have K3 := hide k3
  obtain ⟨la, lc, _, _, rfl, _⟩ := k1
  obtain ⟨ta, tc, _, _, rfl, _⟩ := k2
  obtain ⟨da, dc, rfl, _⟩ := k3
  obtain ⟨ll, hll⟩ : ∃ n, ml.length = n := ⟨_, rfl⟩
  obtain ⟨tl, htl⟩ : ∃ n, mt.length = n := ⟨_, rfl⟩
  obtain ⟨dl, hdl⟩ : ∃ n, md.length = n := ⟨_, rfl⟩
  have HLL := hide hll
  rw [hll] at K1
  rw [htl] at K2
  rw [hdl] at K3
  rw [hll, htl, hdl]
  have hB : Below w.heap.size w (w.alloc (.cells #[.int .i64 aK, .int .i64 aF, .int .i64 aO, .int .i64 aT, .int .i64 aS, .int .i64 aL, .int .i64 aC, .bool aY, .slice la ll lc, .int .i64 ek, .int .i64 ef, .int .i64 en, .slice ta tl tc, .int .i64 ps, .int .i64 pi, .int .i64 pm, .slice da dl dc] 34)) := (Below.refl _ _).alloc (Nat.le_refl _) _
  have HB := hide hB
  have HL := hide (allM_any _ ml _ ((unhide K1).below hB) o1)
  have HE : Hid (Calls Tryz.prog 33 #[.agg #[.int .i64 ek, .int .i64 ef, .int .i64 en, .slice ta tl tc]] (w.alloc (.cells #[.int .i64 aK, .int .i64 aF, .int .i64 aO, .int .i64 aT, .int .i64 aS, .int .i64 aL, .int .i64 aC, .bool aY, .slice la ll lc, .int .i64 ek, .int .i64 ef, .int .i64 en, .slice ta tl tc, .int .i64 ps, .int .i64 pi, .int .i64 pm, .slice da dl dc] 34)) fun e w' => e = .returned (.bool (mayE ⟨ek, ef, en, mt⟩)) ∧ Below (w.alloc (.cells #[.int .i64 aK, .int .i64 aF, .int .i64 aO, .int .i64 aT, .int .i64 aS, .int .i64 aL, .int .i64 aC, .bool aY, .slice la ll lc, .int .i64 ek, .int .i64 ef, .int .i64 en, .slice ta tl tc, .int .i64 ps, .int .i64 pi, .int .i64 pm, .slice da dl dc] 34)).heap.size (w.alloc (.cells #[.int .i64 aK, .int .i64 aF, .int .i64 aO, .int .i64 aT, .int .i64 aS, .int .i64 aL, .int .i64 aC, .bool aY, .slice la ll lc, .int .i64 ek, .int .i64 ef, .int .i64 en, .slice ta tl tc, .int .i64 ps, .int .i64 pi, .int .i64 pm, .slice da dl dc] 34)) w') := entryMayBe_any _ ⟨ek, ef, en, mt⟩ _ ⟨_, rfl, (unhide K2).below hB⟩ o2
  have HP : Hid (Calls Tryz.prog 114 #[.agg #[.int .i64 ps, .int .i64 pi, .int .i64 pm, .slice da dl dc]] (w.alloc (.cells #[.int .i64 aK, .int .i64 aF, .int .i64 aO, .int .i64 aT, .int .i64 aS, .int .i64 aL, .int .i64 aC, .bool aY, .slice la ll lc, .int .i64 ek, .int .i64 ef, .int .i64 en, .slice ta tl tc, .int .i64 ps, .int .i64 pi, .int .i64 pm, .slice da dl dc] 34)) fun e w' => e = .returned (.bool (mayP ⟨ps, pi, pm, md⟩)) ∧ Below (w.alloc (.cells #[.int .i64 aK, .int .i64 aF, .int .i64 aO, .int .i64 aT, .int .i64 aS, .int .i64 aL, .int .i64 aC, .bool aY, .slice la ll lc, .int .i64 ek, .int .i64 ef, .int .i64 en, .slice ta tl tc, .int .i64 ps, .int .i64 pi, .int .i64 pm, .slice da dl dc] 34)).heap.size (w.alloc (.cells #[.int .i64 aK, .int .i64 aF, .int .i64 aO, .int .i64 aT, .int .i64 aS, .int .i64 aL, .int .i64 aC, .bool aY, .slice la ll lc, .int .i64 ek, .int .i64 ef, .int .i64 en, .slice ta tl tc, .int .i64 ps, .int .i64 pi, .int .i64 pm, .slice da dl dc] 34)) w') := partMayBe_any _ ⟨ps, pi, pm, md⟩ _ ⟨_, rfl, (unhide K3).below hB⟩
  clear hB hll htl hdl
  by_cases h0 : f = 0
  case pos =>
    subst h0
    go_enter Tryz.func66, Tryz.ntmps66
    go_wp2_with (first | (go_at_call 59; refine (isCount_any _ _).mono ?_; rintro e w' ⟨rfl, rfl⟩) | fail)
    go_ret
    exact ⟨retBool (by simp [fMay]), unhide HB⟩
  by_cases h1 : f = 1
  case pos =>
    subst h1
    go_enter Tryz.func66, Tryz.ntmps66
    go_wp2_with (first | (go_at_call 59; refine (isCount_any _ _).mono ?_; rintro e w' ⟨rfl, rfl⟩) | fail)
    go_ret
    exact ⟨retBool (by simp [fMay]), unhide HB⟩
  by_cases h2 : f = 2
  case pos =>
    subst h2
    go_enter Tryz.func66, Tryz.ntmps66
    go_wp2_with (first | (go_at_call 59; refine (isCount_any _ _).mono ?_; rintro e w' ⟨rfl, rfl⟩) | fail)
    go_ret
    exact ⟨retBool (by simp [fMay]), unhide HB⟩
  by_cases h3 : f = 3
  case pos =>
    subst h3
    go_enter Tryz.func66, Tryz.ntmps66
    go_wp2_with (first | (go_at_call 59; refine (isCount_any _ _).mono ?_; rintro e w' ⟨rfl, rfl⟩) | fail)
    go_ret
    exact ⟨retBool (by simp [fMay]), unhide HB⟩
  by_cases h4 : f = 4
  case pos =>
    subst h4
    go_enter Tryz.func66, Tryz.ntmps66
    go_wp2_with (first | (go_at_call 59; refine (isCount_any _ _).mono ?_; rintro e w' ⟨rfl, rfl⟩) | fail)
    go_ret
    exact ⟨retBool (by simp [fMay]), unhide HB⟩
  by_cases h5 : f = 5
  case pos =>
    subst h5
    by_cases hl : ll ≤ 4096
    case neg =>
      go_enter Tryz.func66, Tryz.ntmps66
      go_wp2_with fail
      go_ret
      exact ⟨retBool (by simp only [fMay]; simp; intro h; have := unhide HLL; omega), unhide HB⟩
    case pos =>
      go_enter Tryz.func66, Tryz.ntmps66
      go_wp2_with fail
      refine (unhide HL).mono ?_
      rintro e w2 ⟨rfl, hb2⟩
      have HB2 : Hid (Below w.heap.size w w2) := (unhide HB).trans (hb2.mono (unhide HB).size)
      clear hb2 HL
      have hd : decide (ml.length ≤ 4096) = true := decide_eq_true (by rw [unhide HLL]; exact hl)
      go_wp2_with fail
      go_ret
      exact ⟨retBool (by simp [fMay, hd]), unhide HB2⟩
  by_cases h6 : f = 6
  case pos =>
    subst h6
    go_enter Tryz.func66, Tryz.ntmps66
    go_wp2_with fail
    refine (unhide HE).mono ?_
    rintro e w2 ⟨rfl, hb2⟩
    have HB2 : Hid (Below w.heap.size w w2) := (unhide HB).trans (hb2.mono (unhide HB).size)
    clear hb2 HE
    go_wp2_with fail
    go_ret
    exact ⟨retBool (by simp [fMay]), unhide HB2⟩
  by_cases h7 : f = 7
  case pos =>
    subst h7
    go_enter Tryz.func66, Tryz.ntmps66
    go_wp2_with fail
    refine (unhide HP).mono ?_
    rintro e w2 ⟨rfl, hb2⟩
    have HB2 : Hid (Below w.heap.size w w2) := (unhide HB).trans (hb2.mono (unhide HB).size)
    clear hb2 HP
    go_wp2_with fail
    go_ret
    exact ⟨retBool (by simp [fMay]), unhide HB2⟩
  omega
end Go.Proofs.YtggllgimlfchhaaGreat
