/- putAll, Encode. -/
import Derived.Test.YtknpfippdddnhabDoorX3
import Derived.Test.YtknpfippdddnhabDoorWB
namespace Go.Proofs.YtknpfippdddnhabDoor
open Go.RowKit Go.Shelf
set_option maxRecDepth 100000

theorem encE_yes {x : Ins} {r : List Ins} (h : putE x = 0) : encE (x :: r) = encE r := if_pos h
theorem encE_not {x : Ins} {r : List Ins} (h : putE x ≠ 0) : encE (x :: r) = putE x := if_neg h
theorem encE_app : ∀ (A B : List Ins), encE (A ++ B) = if encE A = 0 then encE B else encE A
  | [], B => rfl
  | x :: r, B => by
    by_cases hx : putE x = 0
    · rw [List.cons_append, encE_yes hx, encE_yes hx, encE_app r B]
    · rw [List.cons_append, encE_not hx, encE_not hx, if_neg hx]
theorem encE_at {l : List Ins} {t : Nat} {x : Ins} (hx : l[t]? = some x) (h : encE (l.take t) = 0) (he : putE x ≠ 0) : encE l = putE x := by
  obtain ⟨ht, rfl⟩ := List.getElem?_eq_some_iff.1 hx
  have e : l = l.take t ++ l[t] :: l.drop (t + 1) := by rw [← List.drop_eq_getElem_cons ht, List.take_append_drop]
  rw [congrArg encE e, encE_app, if_pos h, encE_not he]
theorem encE_step {l : List Ins} {t : Nat} {x : Ins} (hx : l[t]? = some x) (h : encE (l.take t) = 0) (he : putE x = 0) : encE (l.take (t + 1)) = 0 := by
  obtain ⟨ht, rfl⟩ := List.getElem?_eq_some_iff.1 hx
  rw [List.take_succ_eq_append_getElem ht, encE_app, if_pos h]
  simp [encE, he]
theorem putB_le (x : Ins) : (putB x).length ≤ 5 := by
  unfold putB
  split <;> split <;> (try split) <;> (try split) <;> simp
theorem flat_le : ∀ l : List Ins, (l.flatMap putB).length ≤ 5 * l.length
  | [] => by simp
  | x :: r => by rw [List.flatMap_cons, List.length_append, List.length_cons]; have := putB_le x; have := flat_le r; omega
theorem enc_long {l : List Ins} (h : encE l = 0) (hl : 512 < (l.flatMap putB).length) : enc l = ([], 3) := by unfold enc; rw [if_neg (by simpa using h), if_pos hl]
theorem enc_yes {l : List Ins} (h : encE l = 0) (hl : (l.flatMap putB).length ≤ 512) : enc l = (l.flatMap putB, 0) := by unfold enc; rw [if_neg (by simpa using h), if_neg (by omega)]
theorem enc_no {l : List Ins} (h : encE l ≠ 0) : enc l = ([], encE l) := by unfold enc; rw [if_pos h]
theorem enc_err {l : List Ins} (h : (enc l).2 ≠ 0) : (enc l).1 = [] := by
  unfold enc at h ⊢
  split
  · rfl
  · rename_i h1
    rw [if_neg h1] at h
    split
    · rfl
    · rename_i h2
      rw [if_neg h2] at h
      exact absurd rfl h

/-- What putAll ends with. -/
def EnR (w : World) (base : Nat) (D : List Int × Int) (e : Ending) (w' : World) : Prop :=
  Below w.heap.size w w' ∧ (D.2 = 0 → ∃ x, e = .returned x ∧ w'.ownsRow base 5 1 x D.1.length (D.1.flatMap yC)) ∧ (D.2 ≠ 0 → e = GiveUp D.2)
def OkI (l : List Ins) : Prop := ∀ x ∈ l, I64 x.im
set_option maxHeartbeats 400000 in
theorem putAll_any {w : World} {v : Value} {l : List Ins} (hT : Tab w) (hs : SeesL iC 5 w v l) (hok : OkI l) (hm : l.length ≤ 3518437208883) :
    Calls Tryd.prog 17 #[v] w fun e w' => EnR w w.heap.size (enc l) e w' := by
  have HT := hide hT
  have HS := hide hs
  obtain ⟨ao, cap, rfl⟩ := hs.shape
  obtain ⟨k, hk⟩ : ∃ k, l.length = k := ⟨_, rfl⟩
  rw [hk] at HS hm ⊢
  have HK := hide hk
  have hpos := hT.pos
  clear hT hs hk
  go_enter Tryd.func17, Tryd.ntmps17
  go_wp2
  go_loopw [3, 8] (fun x c z => ∃ t : Nat, t ≤ k ∧ c = .int .i64 t ∧ encE (l.take t) = 0 ∧ z.ownsRow w.heap.size 5 1 x ((l.take t).flatMap putB).length (((l.take t).flatMap putB).flatMap yC) ∧ Below w.heap.size w z) (fun _ c _ => k - (intOf c).toNat)
  case atStart => exact ⟨0, Nat.zero_le _, rfl, rfl, own_nil _ _ _ _, Below.refl _ _⟩
  case round =>
    obtain ⟨t, ht, rfl, hE, hO, hB⟩ := hrel
    obtain ⟨va, vc, hv⟩ := own_shape hO
    rw [hv] at hO ⊢
    have hle := flat_le (l.take t)
    rw [List.length_take, unhide HK, Nat.min_eq_left ht] at hle
    by_cases hlt : t < k
    · obtain ⟨x, hx⟩ : ∃ x, l[t]? = some x := ⟨_, List.getElem?_eq_getElem (by rw [unhide HK]; exact hlt)⟩
      have hsz := (unhide HS).below iC_len hB
      obtain ⟨ao', cap', g, o, hv2, _, hao, hc⟩ := hsz.ins
      simp only [Value.slice.injEq] at hv2
      obtain ⟨rfl, -, rfl⟩ := hv2
      obtain rfl := hao (by rw [unhide HK]; omega)
      obtain ⟨d0, d1, d2, d3, d4⟩ := hc t x hx
      have hlt2 : (t : Int) < (k : Int) := by omega
      have hmem := hok x (List.mem_of_getElem? hx)
      have hbx : Below wr.heap.size wr (wr.alloc (.cells #[.int .i64 x.ad, .int .i64 x.op, .int .i64 x.a, .int .i64 x.b, .int .i64 x.im] 35)) := below_box _
      have hp := put_any x (((unhide HT).below hB (unhide HT).pos).below hbx (Nat.lt_of_lt_of_le hpos hB.size)) hmem (hO.alloc _) (by omega) (Nat.le_trans hB.size (by simp)) hpos
      have HB := hide hB
      have HX := hide hx
      have HE := hide hE
      generalize hN : ((l.take t).flatMap putB).length = N at *
      clear hv hO hsz hc hx hE hB hmem
      by_cases he : putE x = 0
      · have HP := hide (hp.mono fun e w' h => And.intro h.1 (h.2.1 he))
        have hst := encE_step (unhide HX) (unhide HE) he
        have HST := hide hst
        clear hp hst he
        obtain ⟨xd, xo, xa, xb, xm⟩ := x
        go_wp2_with (go_at_call 32; refine (unhide HP).mono ?_; rintro e z ⟨hbz, y, rfl, hoz⟩; obtain ⟨ya, yc, rfl⟩ := own_shape hoz)
        go_roundw
        case rel =>
          have e1 : (l.take (t + 1)).flatMap putB = (l.take t).flatMap putB ++ putB ⟨xd, xo, xa, xb, xm⟩ := by
            obtain ⟨hl, e⟩ := List.getElem?_eq_some_iff.1 (unhide HX)
            rw [List.take_succ_eq_append_getElem hl, e, List.flatMap_append]; simp
          refine ⟨t + 1, by omega, by go_num, unhide HST, ?_, (unhide HB).trans ((hbx.mono (unhide HB).size).trans hbz)⟩
          rw [e1, List.length_append, hN]
          exact hoz
        case measure => simp [intOf]; omega
      · have HP := hide (hp.mono fun e w' h => And.intro h.1 (h.2.2 he))
        have hst := encE_at (unhide HX) (unhide HE) he
        have HST := hide hst
        have HNE := hide he
        clear hp hst he
        obtain ⟨xd, xo, xa, xb, xm⟩ := x
        go_wp2_with fail
        refine (unhide HP).mono ?_
        rintro e z ⟨hbz, rfl⟩
        refine ⟨rfl, ?_⟩
        have hen := unhide HST
        rw [enc_no (by rw [hen]; exact unhide HNE), hen]
        exact ⟨(unhide HB).trans ((hbx.mono (unhide HB).size).trans hbz), fun z => absurd z (unhide HNE), fun _ => rfl⟩
    · have htk : t = k := by omega
      have hfull : l.take t = l := List.take_of_length_le (by rw [unhide HK]; omega)
      rw [hfull] at hE hO hle hv ⊢
      have HB := hide hB
      have HE := hide hE
      have HO := hide hO
      clear hE hO hv hB
      generalize hN : (l.flatMap putB).length = N at *
      by_cases hlong : N ≤ 512
      · have hd : (N : Int) ≤ 512 := by omega
        go_wp2_with (go_at_call 27; refine (must_ok _ _).mono ?_; rintro e w2 ⟨rfl, rfl⟩)
        go_ret
        rw [enc_yes (unhide HE) (by rw [hN]; exact hlong)]
        refine ⟨unhide HB, fun _ => ⟨_, rfl, ?_⟩, fun z => absurd rfl z⟩
        rw [hN]
        exact unhide HO
      · have hd : decide ((N : Int) ≤ 512) = false := by simp; omega
        go_wp2_with fail
        refine (must_no _ _).mono ?_
        rintro e w2 ⟨rfl, rfl⟩
        refine ⟨rfl, ?_⟩
        rw [enc_long (unhide HE) (by rw [hN]; omega)]
        exact ⟨unhide HB, fun z => absurd z (by decide), fun _ => rfl⟩
end Go.Proofs.YtknpfippdddnhabDoor
