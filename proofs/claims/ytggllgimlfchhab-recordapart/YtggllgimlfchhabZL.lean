/- RecordApart: the walk. -/
import Derived.Test.YtggllgimlfchhabZK
namespace Go.Proofs.Ytggllgimlfchhab
open Go.RowKit
set_option maxRecDepth 100000

theorem putL_byt (l : List Int) : Byt (putL l) := by
  induction l with
  | nil => intro b hb; cases hb
  | cons x r ih => exact Byt.append (numB_byte x) ih
theorem entB_byt {e : EntD} (hf : FitE e) : Byt (entB e) := by
  have hn : ∀ l, Byt (putL l) := fun l => putL_byt l
  have ht : ∀ t, FitT t → Byt (txnB t) := fun t h => (((((hn _).append ((hn _).append h.code)).append (hn _)).append (hn _)).append (hn _)).append (hn _)
  unfold entB
  refine (hn _).append ?_
  split
  · refine (hn _).append ((hn _).append ?_)
    intro b hb
    simp only [txnsB, List.mem_flatten, List.mem_map] at hb
    obtain ⟨_, ⟨t, hm, rfl⟩, hb⟩ := hb
    exact ht t (hf.txns t hm) b hb
  · intro b hb; cases hb

set_option maxHeartbeats 1600000 in
theorem recordApart_walk (cx cy : Array Value) (x y : EntD) (w : World) (hx : SeesE w cx x) (hy : SeesE w cy y) (fx : FitE x) (fy : FitE y) :
    Calls Try.prog 3 #[.agg cx, .agg cy] w fun e w' => e = .returned (.bool true) ∧ Below w.heap.size w w' := by
  have HFX := hide fx
  have HFY := hide fy
  obtain ⟨X, hX⟩ : ∃ e, x = e := ⟨_, rfl⟩
  obtain ⟨Y, hY⟩ : ∃ e, y = e := ⟨_, rfl⟩
  rw [hX] at HFX
  rw [hY] at HFY
  have HXE := hide hX
  have HYE := hide hY
  obtain ⟨xk, xf, xn, xtxns⟩ := x
  obtain ⟨yk, yf, yn, ytxns⟩ := y
  obtain ⟨_, rfl, hx⟩ := hx
  obtain ⟨_, rfl, hy⟩ := hy
  simp only at hx hy
  have HSX : Hid (StTs w.heap.size w _ xtxns) := StTs.of hx
  have HSY : Hid (StTs w.heap.size w _ ytxns) := StTs.of hy
  obtain ⟨xa, xc, _, _, rfl, _⟩ := hx
  obtain ⟨ya, yc, _, _, rfl, _⟩ := hy
  have hal : Below w.heap.size w ((w.alloc (.cells #[.int .i64 xk, .int .i64 xf, .int .i64 xn, .slice xa xtxns.length xc] 24)).alloc (.cells #[.int .i64 yk, .int .i64 yf, .int .i64 yn, .slice ya ytxns.length yc] 24)) := ((Below.refl _ _).alloc (Nat.le_refl _) _).alloc (by simp) _
  have HB0 := hide hal
  have HBX : Hid (∀ w' : World, Below (w.heap.size + 2) ((w.alloc (.cells #[.int .i64 xk, .int .i64 xf, .int .i64 xn, .slice xa xtxns.length xc] 24)).alloc (.cells #[.int .i64 yk, .int .i64 yf, .int .i64 yn, .slice ya ytxns.length yc] 24)) w' → w'.cell? ⟨w.heap.size, 0, none⟩ = some (.int .i64 xk) ∧ w'.cell? ⟨w.heap.size, 1, none⟩ = some (.int .i64 xf) ∧ w'.cell? ⟨w.heap.size, 2, none⟩ = some (.int .i64 xn) ∧ w'.cell? ⟨w.heap.size, 3, none⟩ = some (.slice xa xtxns.length xc) ∧ w'.cell? ⟨w.heap.size + 1, 0, none⟩ = some (.int .i64 yk) ∧ w'.cell? ⟨w.heap.size + 1, 1, none⟩ = some (.int .i64 yf) ∧ w'.cell? ⟨w.heap.size + 1, 2, none⟩ = some (.int .i64 yn) ∧ w'.cell? ⟨w.heap.size + 1, 3, none⟩ = some (.slice ya ytxns.length yc)) := fun w' hb => by
    have e : (w.alloc (.cells #[.int .i64 xk, .int .i64 xf, .int .i64 xn, .slice xa xtxns.length xc] 24)).heap.size = w.heap.size + 1 := by simp
    have h0 : w'.heap[w.heap.size]? = some (.cells #[.int .i64 xk, .int .i64 xf, .int .i64 xn, .slice xa xtxns.length xc] 24) := (hb.block _ (by omega)).trans ((Below.heap_alloc _ _ _ (by simp)).trans (heap_alloc_new w _))
    have h1 : w'.heap[w.heap.size + 1]? = some (.cells #[.int .i64 yk, .int .i64 yf, .int .i64 yn, .slice ya ytxns.length yc] 24) := (hb.block _ (by omega)).trans (by have := heap_alloc_new (w.alloc (.cells #[.int .i64 xk, .int .i64 xf, .int .i64 xn, .slice xa xtxns.length xc] 24)) (.cells #[.int .i64 yk, .int .i64 yf, .int .i64 yn, .slice ya ytxns.length yc] 24); rw [e] at this; exact this)
    exact ⟨cell_of_heap h0, cell_of_heap h0, cell_of_heap h0, cell_of_heap h0, cell_of_heap h1, cell_of_heap h1, cell_of_heap h1, cell_of_heap h1⟩
  have HEX : Hid (∀ w', Below w.heap.size w w' → SeesE w' #[.int .i64 xk, .int .i64 xf, .int .i64 xn, .slice xa xtxns.length xc] X) := fun w' hb => by rw [← unhide HXE]; exact ⟨_, rfl, ((unhide HSX).on hb).sees⟩
  have HEY : Hid (∀ w', Below w.heap.size w w' → SeesE w' #[.int .i64 yk, .int .i64 yf, .int .i64 yn, .slice ya ytxns.length yc] Y) := fun w' hb => by rw [← unhide HYE]; exact ⟨_, rfl, ((unhide HSY).on hb).sees⟩
  have HNX : Hid (∀ w', Below w.heap.size w w' → Calls Try.prog 5 #[.agg #[.int .i64 xk, .int .i64 xf, .int .i64 xn, .slice xa xtxns.length xc]] w' fun r w2 => ∃ v, r = .returned (.tuple #[v, .int .i64 (if mayE X then 0 else 40)]) ∧ w2.ownsRow w'.heap.size 5 1 v (if mayE X then entB X else []).length (ints .u8 (if mayE X then entB X else [])) ∧ Below w'.heap.size w' w2) := fun w' hb => by
    have := Entry_any w.heap.size #[.int .i64 xk, .int .i64 xf, .int .i64 xn, .slice xa xtxns.length xc] ⟨xk, xf, xn, xtxns⟩ w' hb.size ⟨_, rfl, (unhide HSX).on hb⟩ (by rw [unhide HXE]; exact unhide HFX)
    rw [unhide HXE] at this
    exact this
  have HNY : Hid (∀ w', Below w.heap.size w w' → Calls Try.prog 5 #[.agg #[.int .i64 yk, .int .i64 yf, .int .i64 yn, .slice ya ytxns.length yc]] w' fun r w2 => ∃ v, r = .returned (.tuple #[v, .int .i64 (if mayE Y then 0 else 40)]) ∧ w2.ownsRow w'.heap.size 5 1 v (if mayE Y then entB Y else []).length (ints .u8 (if mayE Y then entB Y else [])) ∧ Below w'.heap.size w' w2) := fun w' hb => by
    have := Entry_any w.heap.size #[.int .i64 yk, .int .i64 yf, .int .i64 yn, .slice ya ytxns.length yc] ⟨yk, yf, yn, ytxns⟩ w' hb.size ⟨_, rfl, (unhide HSY).on hb⟩ (by rw [unhide HYE]; exact unhide HFY)
    rw [unhide HYE] at this
    exact this
  clear hal fx fy hX hY
  cases hmx : mayE X with
  | false =>
    rw [hmx] at HNX
    simp only [Bool.false_eq_true, if_false] at HNX
    cases hmy : mayE Y with
    | false =>
      rw [hmy] at HNY
      simp only [Bool.false_eq_true, if_false] at HNY
      go_enter Try.func3, Try.ntmps3
      go_wp2_with fail
      refine (begun_any _).mono ?_
      rintro e w1 ⟨rfl, hb1⟩
      have HXa : Hid (Below (w.heap.size + 2) ((w.alloc (.cells #[.int .i64 xk, .int .i64 xf, .int .i64 xn, .slice xa xtxns.length xc] 24)).alloc (.cells #[.int .i64 yk, .int .i64 yf, .int .i64 yn, .slice ya ytxns.length yc] 24)) w1) := hb1.mono (by simp)
      have HBa : Hid (Below w.heap.size w w1) := (unhide HB0).trans (hb1.mono (by simp; omega))
      clear hb1
      obtain ⟨a0, a1, a2, a3, a4, a5, a6, a7⟩ := unhide HBX w1 (unhide HXa)
      go_wp2_with fail
      refine (unhide HNX _ (unhide HBa)).mono ?_
      rintro e w2 ⟨vx, rfl, hox, hb2⟩
      obtain ⟨ax, cvx, rfl⟩ := own_shape hox
      have HXb : Hid (Below (w.heap.size + 2) ((w.alloc (.cells #[.int .i64 xk, .int .i64 xf, .int .i64 xn, .slice xa xtxns.length xc] 24)).alloc (.cells #[.int .i64 yk, .int .i64 yf, .int .i64 yn, .slice ya ytxns.length yc] 24)) w2) := (unhide HXa).trans (hb2.mono (by have := (unhide HXa).size; simp only [World.size_alloc] at this; omega))
      have HBb : Hid (Below w.heap.size w w2) := (unhide HBa).trans (hb2.mono (unhide HBa).size)
      have HOX := hide hox
      clear hb2 hox
      obtain ⟨b0, b1, b2, b3, b4, b5, b6, b7⟩ := unhide HBX w2 (unhide HXb)
      go_wp2_with fail
      refine (unhide HNY _ (unhide HBb)).mono ?_
      rintro e w3 ⟨vy, rfl, hoy, hb3⟩
      obtain ⟨ay, cvy, rfl⟩ := own_shape hoy
      have HXc : Hid (Below (w.heap.size + 2) ((w.alloc (.cells #[.int .i64 xk, .int .i64 xf, .int .i64 xn, .slice xa xtxns.length xc] 24)).alloc (.cells #[.int .i64 yk, .int .i64 yf, .int .i64 yn, .slice ya ytxns.length yc] 24)) w3) := (unhide HXb).trans (hb3.mono (by have := (unhide HXb).size; simp only [World.size_alloc] at this; omega))
      have HBc : Hid (Below w.heap.size w w3) := (unhide HBb).trans (hb3.mono (unhide HBb).size)
      have HOX3 := hide (own_below (unhide HOX) hb3)
      have HOY := hide hoy
      clear hb3 hoy HOX
      obtain ⟨c0, c1, c2, c3, c4, c5, c6, c7⟩ := unhide HBX w3 (unhide HXc)

      have HMX := hide (mayEntry_any _ X w3 (unhide HEX w3 (unhide HBc)) (unhide HFX).ok)
      have HMYf : Hid (∀ w', Below w.heap.size w w' → Calls Try.prog 6 #[.agg #[.int .i64 yk, .int .i64 yf, .int .i64 yn, .slice ya ytxns.length yc]] w' fun e w2 => e = .returned (.bool (mayE Y)) ∧ Below w'.heap.size w' w2) := fun w' hb => mayEntry_any _ Y w' (unhide HEY w' hb) (unhide HFY).ok
      rw [hmx] at HMX
      rw [hmy] at HMYf
      go_wp2_with fail
      refine (unhide HMX).mono ?_
      rintro e w4 ⟨rfl, hb4⟩
      have HXd : Hid (Below (w.heap.size + 2) ((w.alloc (.cells #[.int .i64 xk, .int .i64 xf, .int .i64 xn, .slice xa xtxns.length xc] 24)).alloc (.cells #[.int .i64 yk, .int .i64 yf, .int .i64 yn, .slice ya ytxns.length yc] 24)) w4) := (unhide HXc).trans (hb4.mono (by have := (unhide HXc).size; simp only [World.size_alloc] at this; omega))
      have HBd : Hid (Below w.heap.size w w4) := (unhide HBc).trans (hb4.mono (unhide HBc).size)
      clear hb4
      obtain ⟨d0, d1, d2, d3, d4, d5, d6, d7⟩ := unhide HBX w4 (unhide HXd)
      go_wp2_with fail
      refine (unhide HMYf w4 (unhide HBd)).mono ?_
      rintro e w5 ⟨rfl, hb5⟩
      have HF : Hid (Below w.heap.size w w5) := (unhide HBd).trans (hb5.mono (unhide HBd).size)
      clear hb5
      go_wp2_with fail
      go_ret
      exact ⟨rfl, unhide HF⟩
    | true =>
      rw [hmy] at HNY
      simp only [if_true] at HNY
      go_enter Try.func3, Try.ntmps3
      go_wp2_with fail
      refine (begun_any _).mono ?_
      rintro e w1 ⟨rfl, hb1⟩
      have HXa : Hid (Below (w.heap.size + 2) ((w.alloc (.cells #[.int .i64 xk, .int .i64 xf, .int .i64 xn, .slice xa xtxns.length xc] 24)).alloc (.cells #[.int .i64 yk, .int .i64 yf, .int .i64 yn, .slice ya ytxns.length yc] 24)) w1) := hb1.mono (by simp)
      have HBa : Hid (Below w.heap.size w w1) := (unhide HB0).trans (hb1.mono (by simp; omega))
      clear hb1
      obtain ⟨a0, a1, a2, a3, a4, a5, a6, a7⟩ := unhide HBX w1 (unhide HXa)
      go_wp2_with fail
      refine (unhide HNX _ (unhide HBa)).mono ?_
      rintro e w2 ⟨vx, rfl, hox, hb2⟩
      obtain ⟨ax, cvx, rfl⟩ := own_shape hox
      have HXb : Hid (Below (w.heap.size + 2) ((w.alloc (.cells #[.int .i64 xk, .int .i64 xf, .int .i64 xn, .slice xa xtxns.length xc] 24)).alloc (.cells #[.int .i64 yk, .int .i64 yf, .int .i64 yn, .slice ya ytxns.length yc] 24)) w2) := (unhide HXa).trans (hb2.mono (by have := (unhide HXa).size; simp only [World.size_alloc] at this; omega))
      have HBb : Hid (Below w.heap.size w w2) := (unhide HBa).trans (hb2.mono (unhide HBa).size)
      have HOX := hide hox
      clear hb2 hox
      obtain ⟨b0, b1, b2, b3, b4, b5, b6, b7⟩ := unhide HBX w2 (unhide HXb)
      go_wp2_with fail
      refine (unhide HNY _ (unhide HBb)).mono ?_
      rintro e w3 ⟨vy, rfl, hoy, hb3⟩
      obtain ⟨ay, cvy, rfl⟩ := own_shape hoy
      have HXc : Hid (Below (w.heap.size + 2) ((w.alloc (.cells #[.int .i64 xk, .int .i64 xf, .int .i64 xn, .slice xa xtxns.length xc] 24)).alloc (.cells #[.int .i64 yk, .int .i64 yf, .int .i64 yn, .slice ya ytxns.length yc] 24)) w3) := (unhide HXb).trans (hb3.mono (by have := (unhide HXb).size; simp only [World.size_alloc] at this; omega))
      have HBc : Hid (Below w.heap.size w w3) := (unhide HBb).trans (hb3.mono (unhide HBb).size)
      have HOX3 := hide (own_below (unhide HOX) hb3)
      have HOY := hide hoy
      clear hb3 hoy HOX
      obtain ⟨c0, c1, c2, c3, c4, c5, c6, c7⟩ := unhide HBX w3 (unhide HXc)

      have HMX := hide (mayEntry_any _ X w3 (unhide HEX w3 (unhide HBc)) (unhide HFX).ok)
      have HMYf : Hid (∀ w', Below w.heap.size w w' → Calls Try.prog 6 #[.agg #[.int .i64 yk, .int .i64 yf, .int .i64 yn, .slice ya ytxns.length yc]] w' fun e w2 => e = .returned (.bool (mayE Y)) ∧ Below w'.heap.size w' w2) := fun w' hb => mayEntry_any _ Y w' (unhide HEY w' hb) (unhide HFY).ok
      rw [hmx] at HMX
      go_wp2_with fail
      refine (unhide HMX).mono ?_
      rintro e w4 ⟨rfl, hb4⟩
      have HF : Hid (Below w.heap.size w w4) := (unhide HBc).trans (hb4.mono (unhide HBc).size)
      clear hb4
      go_wp2_with fail
      go_ret
      exact ⟨rfl, unhide HF⟩
  | true =>
    rw [hmx] at HNX
    simp only [if_true] at HNX
    cases hmy : mayE Y with
    | false =>
      rw [hmy] at HNY
      simp only [Bool.false_eq_true, if_false] at HNY
      go_enter Try.func3, Try.ntmps3
      go_wp2_with fail
      refine (begun_any _).mono ?_
      rintro e w1 ⟨rfl, hb1⟩
      have HXa : Hid (Below (w.heap.size + 2) ((w.alloc (.cells #[.int .i64 xk, .int .i64 xf, .int .i64 xn, .slice xa xtxns.length xc] 24)).alloc (.cells #[.int .i64 yk, .int .i64 yf, .int .i64 yn, .slice ya ytxns.length yc] 24)) w1) := hb1.mono (by simp)
      have HBa : Hid (Below w.heap.size w w1) := (unhide HB0).trans (hb1.mono (by simp; omega))
      clear hb1
      obtain ⟨a0, a1, a2, a3, a4, a5, a6, a7⟩ := unhide HBX w1 (unhide HXa)
      go_wp2_with fail
      refine (unhide HNX _ (unhide HBa)).mono ?_
      rintro e w2 ⟨vx, rfl, hox, hb2⟩
      obtain ⟨ax, cvx, rfl⟩ := own_shape hox
      have HXb : Hid (Below (w.heap.size + 2) ((w.alloc (.cells #[.int .i64 xk, .int .i64 xf, .int .i64 xn, .slice xa xtxns.length xc] 24)).alloc (.cells #[.int .i64 yk, .int .i64 yf, .int .i64 yn, .slice ya ytxns.length yc] 24)) w2) := (unhide HXa).trans (hb2.mono (by have := (unhide HXa).size; simp only [World.size_alloc] at this; omega))
      have HBb : Hid (Below w.heap.size w w2) := (unhide HBa).trans (hb2.mono (unhide HBa).size)
      have HOX := hide hox
      clear hb2 hox
      obtain ⟨b0, b1, b2, b3, b4, b5, b6, b7⟩ := unhide HBX w2 (unhide HXb)
      go_wp2_with fail
      refine (unhide HNY _ (unhide HBb)).mono ?_
      rintro e w3 ⟨vy, rfl, hoy, hb3⟩
      obtain ⟨ay, cvy, rfl⟩ := own_shape hoy
      have HXc : Hid (Below (w.heap.size + 2) ((w.alloc (.cells #[.int .i64 xk, .int .i64 xf, .int .i64 xn, .slice xa xtxns.length xc] 24)).alloc (.cells #[.int .i64 yk, .int .i64 yf, .int .i64 yn, .slice ya ytxns.length yc] 24)) w3) := (unhide HXb).trans (hb3.mono (by have := (unhide HXb).size; simp only [World.size_alloc] at this; omega))
      have HBc : Hid (Below w.heap.size w w3) := (unhide HBb).trans (hb3.mono (unhide HBb).size)
      have HOX3 := hide (own_below (unhide HOX) hb3)
      have HOY := hide hoy
      clear hb3 hoy HOX
      obtain ⟨c0, c1, c2, c3, c4, c5, c6, c7⟩ := unhide HBX w3 (unhide HXc)

      have HMX := hide (mayEntry_any _ X w3 (unhide HEX w3 (unhide HBc)) (unhide HFX).ok)
      have HMYf : Hid (∀ w', Below w.heap.size w w' → Calls Try.prog 6 #[.agg #[.int .i64 yk, .int .i64 yf, .int .i64 yn, .slice ya ytxns.length yc]] w' fun e w2 => e = .returned (.bool (mayE Y)) ∧ Below w'.heap.size w' w2) := fun w' hb => mayEntry_any _ Y w' (unhide HEY w' hb) (unhide HFY).ok
      rw [hmy] at HMYf
      go_wp2_with fail
      refine (unhide HMYf w3 (unhide HBc)).mono ?_
      rintro e w5 ⟨rfl, hb5⟩
      have HF : Hid (Below w.heap.size w w5) := (unhide HBc).trans (hb5.mono (unhide HBc).size)
      clear hb5
      go_wp2_with fail
      go_ret
      exact ⟨rfl, unhide HF⟩
    | true =>
      rw [hmy] at HNY
      simp only [if_true] at HNY
      go_enter Try.func3, Try.ntmps3
      go_wp2_with fail
      refine (begun_any _).mono ?_
      rintro e w1 ⟨rfl, hb1⟩
      have HXa : Hid (Below (w.heap.size + 2) ((w.alloc (.cells #[.int .i64 xk, .int .i64 xf, .int .i64 xn, .slice xa xtxns.length xc] 24)).alloc (.cells #[.int .i64 yk, .int .i64 yf, .int .i64 yn, .slice ya ytxns.length yc] 24)) w1) := hb1.mono (by simp)
      have HBa : Hid (Below w.heap.size w w1) := (unhide HB0).trans (hb1.mono (by simp; omega))
      clear hb1
      obtain ⟨a0, a1, a2, a3, a4, a5, a6, a7⟩ := unhide HBX w1 (unhide HXa)
      go_wp2_with fail
      refine (unhide HNX _ (unhide HBa)).mono ?_
      rintro e w2 ⟨vx, rfl, hox, hb2⟩
      obtain ⟨ax, cvx, rfl⟩ := own_shape hox
      have HXb : Hid (Below (w.heap.size + 2) ((w.alloc (.cells #[.int .i64 xk, .int .i64 xf, .int .i64 xn, .slice xa xtxns.length xc] 24)).alloc (.cells #[.int .i64 yk, .int .i64 yf, .int .i64 yn, .slice ya ytxns.length yc] 24)) w2) := (unhide HXa).trans (hb2.mono (by have := (unhide HXa).size; simp only [World.size_alloc] at this; omega))
      have HBb : Hid (Below w.heap.size w w2) := (unhide HBa).trans (hb2.mono (unhide HBa).size)
      have HOX := hide hox
      clear hb2 hox
      obtain ⟨b0, b1, b2, b3, b4, b5, b6, b7⟩ := unhide HBX w2 (unhide HXb)
      go_wp2_with fail
      refine (unhide HNY _ (unhide HBb)).mono ?_
      rintro e w3 ⟨vy, rfl, hoy, hb3⟩
      obtain ⟨ay, cvy, rfl⟩ := own_shape hoy
      have HXc : Hid (Below (w.heap.size + 2) ((w.alloc (.cells #[.int .i64 xk, .int .i64 xf, .int .i64 xn, .slice xa xtxns.length xc] 24)).alloc (.cells #[.int .i64 yk, .int .i64 yf, .int .i64 yn, .slice ya ytxns.length yc] 24)) w3) := (unhide HXb).trans (hb3.mono (by have := (unhide HXb).size; simp only [World.size_alloc] at this; omega))
      have HBc : Hid (Below w.heap.size w w3) := (unhide HBb).trans (hb3.mono (unhide HBb).size)
      have HOX3 := hide (own_below (unhide HOX) hb3)
      have HOY := hide hoy
      clear hb3 hoy HOX
      obtain ⟨c0, c1, c2, c3, c4, c5, c6, c7⟩ := unhide HBX w3 (unhide HXc)

      have HMX := hide (mayEntry_any _ X w3 (unhide HEX w3 (unhide HBc)) (unhide HFX).ok)
      have HMYf : Hid (∀ w', Below w.heap.size w w' → Calls Try.prog 6 #[.agg #[.int .i64 yk, .int .i64 yf, .int .i64 yn, .slice ya ytxns.length yc]] w' fun e w2 => e = .returned (.bool (mayE Y)) ∧ Below w'.heap.size w' w2) := fun w' hb => mayEntry_any _ Y w' (unhide HEY w' hb) (unhide HFY).ok
      have HS := hide (refSameEntry_any _ _ X Y w3 (unhide HEX w3 (unhide HBc)) (unhide HEY w3 (unhide HBc)) (unhide HFX).ok (unhide HFY).ok)
      have HQ : Hid (∀ w', Below w3.heap.size w3 w' → Calls Try.prog 8 #[.slice ax (entB X).length cvx, .slice ay (entB Y).length cvy] w' fun e w2 => e = .returned (.bool (decide (entB X = entB Y))) ∧ w' = w2) := fun w' hb => equal_any _ _ _ _ w' ((sees_of_own (unhide HOX3)).2.below hb) ((sees_of_own (unhide HOY)).2.below hb) (entB_byt (unhide HFX)) (entB_byt (unhide HFY))
      have hiff : decide (entB X = entB Y) = decide (X = Y) := decide_eq_decide.2 ⟨fun h => form_inj (unhide HFX) (unhide HFY) hmx hmy h, fun h => by rw [h]⟩
      rw [hiff] at HQ
      clear hiff
      obtain ⟨bb, hbb⟩ : ∃ b, decide (X = Y) = b := ⟨_, rfl⟩
      rw [hbb] at HQ HS
      clear hbb
      go_wp2_with fail
      refine (unhide HS).mono ?_
      rintro e w4 ⟨rfl, hb4⟩
      have HQ4 := hide (unhide HQ w4 hb4)
      have HF : Hid (Below w.heap.size w w4) := (unhide HBc).trans (hb4.mono (unhide HBc).size)
      clear hb4
      go_wp2_with fail
      refine (unhide HQ4).mono ?_
      rintro e w5 ⟨rfl, rfl⟩
      cases bb
      · go_wp2_with fail
        go_ret
        exact ⟨rfl, unhide HF⟩
      · go_wp2_with fail
        go_ret
        exact ⟨rfl, unhide HF⟩
end Go.Proofs.Ytggllgimlfchhab
