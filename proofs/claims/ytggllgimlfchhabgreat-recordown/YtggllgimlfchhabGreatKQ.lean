/- Several texts as one. -/
import Derived.Test.YtggllgimlfchhabGreatKV

/- The reader's blob. -/
namespace Go.Proofs.YtggllgimlfchhabGreat
open Go.RowKit
set_option maxRecDepth 100000

set_option maxHeartbeats 400000 in
theorem blobR_num (R : Nat) (er : Int) (w : World) (HN : Hid (Calls Tryz.prog 111 #[.pointer (some ⟨R, 0, none⟩)] w fun e w' => e = GiveUp er ∧ Below R w w')) :
    Calls Tryz.prog 132 #[.pointer (some ⟨R, 0, none⟩)] w fun e w' => e = GiveUp er ∧ Below R w w' := by
  go_enter Tryz.func132, Tryz.ntmps132
  go_wp2_with fail
  refine (unhide HN).mono ?_
  rintro e w1 ⟨rfl, hb⟩
  exact ⟨rfl, rfl, hb⟩

set_option maxHeartbeats 400000 in
theorem blobR_neg (R : Nat) (n : Int) (w : World) (hn : n < 0) (HN : Hid (Calls Tryz.prog 111 #[.pointer (some ⟨R, 0, none⟩)] w fun e w' => e = .returned (.int .i64 n) ∧ Below R w w')) :
    Calls Tryz.prog 132 #[.pointer (some ⟨R, 0, none⟩)] w fun e w' => e = GiveUp 11 ∧ Below R w w' := by
  go_enter Tryz.func132, Tryz.ntmps132
  go_wp2_with (go_at_call 111; refine (unhide HN).mono ?_; rintro e w1 ⟨rfl, hb⟩)
  rw [show decide (0 ≤ n) = false from decide_eq_false (by omega)]
  refine (must_no _ _).mono ?_
  rintro e w2 ⟨rfl, rfl⟩
  exact ⟨rfl, rfl, hb⟩

set_option maxHeartbeats 800000 in
theorem blobR_short (R : Nat) (ao : Option Addr) (len cap p : Nat) (n : Int) (w : World) (hm : len ≤ 140737488355328) (hp : p ≤ len) (h00 : 0 ≤ n) (hn : (len : Int) - p < n)
    (HN : Hid (Calls Tryz.prog 111 #[.pointer (some ⟨R, 0, none⟩)] w fun e w' => e = .returned (.int .i64 n) ∧ Below R w w' ∧ AtR w' R (.slice ao len cap) p)) :
    Calls Tryz.prog 132 #[.pointer (some ⟨R, 0, none⟩)] w fun e w' => e = GiveUp 10 ∧ Below R w w' := by
  have hw : IntKind.i64.wrap ((len : Int) - (p : Int)) = (len : Int) - (p : Int) := by rw [IntKind.wrap_i64]; omega
  have HW : Hid (decide (n ≤ IntKind.i64.wrap ((len : Int) - (p : Int))) = false) := by rw [hw]; show decide _ = false; simp; omega
  clear hw hn
  go_enter Tryz.func132, Tryz.ntmps132
  go_wp2_with (first
    | (go_at_call 111; refine (unhide HN).mono ?_; rintro e w1 ⟨rfl, hb, hat⟩)
    | (go_at_call_of 112 (Value.bool true); refine (must_ok _ _).mono ?_; rintro e w2 ⟨rfl, rfl⟩))
  have h0 := hat.c0
  have h1 := hat.c1
  refine wp_region_held_drew (S := fun w' => w'.cell? ⟨R, 0, none⟩ = some (.slice ao len cap) ∧ w'.cell? ⟨R, 1, none⟩ = some (.int .i64 p)) (by kernel_rfl) ⟨by simpa using h0, by simpa using h1⟩ (fun hHeld => ?_)
  refine wpAnyH_take (i := 0) (v := ?v0) rfl (by kernel_rfl) (by kernel_rfl) (by kernel_rfl) (fun _ _ _ h => h) (Or.inl ⟨by rfl, ?hy0⟩) (by assumption) ?rest0
  case hy0 => intro w hSw; go_simp <;> with_reducible rfl
  simp only [Act.put, List.getElem_toArray, List.getElem_cons_zero, List.setIfInBounds_toArray, List.set_cons_zero, List.set_cons_succ]
  refine wpAnyH_take (i := 1) (v := ?v1) rfl (by kernel_rfl) (by kernel_rfl) (by kernel_rfl) (fun _ _ _ h => h) (Or.inl ⟨by rfl, ?hy1⟩) (by assumption) ?rest1
  case hy1 => intro w hSw; go_simp <;> with_reducible rfl
  simp only [Act.put, List.getElem_toArray, List.getElem_cons_zero, List.getElem_cons_succ, List.setIfInBounds_toArray, List.set_cons_zero, List.set_cons_succ]
  refine wpAnyH_take (i := 2) (v := ?v2) rfl (by kernel_rfl) (by kernel_rfl) (by kernel_rfl) (fun _ _ _ h => h) (Or.inl ⟨by rfl, ?hy2⟩) (by assumption) ?rest2
  case hy2 => intro w hSw; go_simp <;> with_reducible rfl
  simp only [Act.put, List.getElem_toArray, List.getElem_cons_zero, List.getElem_cons_succ, List.setIfInBounds_toArray, List.set_cons_zero, List.set_cons_succ]
  refine wpAnyH_take (i := 3) (v := ?v3) rfl (by kernel_rfl) (by kernel_rfl) (by kernel_rfl) (fun _ _ _ h => h) (Or.inl ⟨by rfl, ?hy3⟩) (by assumption) ?rest3
  case hy3 => intro w hSw; go_simp <;> with_reducible rfl
  simp only [Act.put, List.getElem_toArray, List.getElem_cons_zero, List.getElem_cons_succ, List.setIfInBounds_toArray, List.set_cons_zero, List.set_cons_succ]
  refine wpAnyH_take (i := 4) (v := ?v4) rfl (by kernel_rfl) (by kernel_rfl) (by kernel_rfl) (fun _ _ _ h => h) (Or.inl ⟨by rfl, ?hy4⟩) (by assumption) ?rest4
  case hy4 => intro w hSw; go_simp <;> with_reducible rfl
  simp only [Act.put, List.getElem_toArray, List.getElem_cons_zero, List.getElem_cons_succ, List.setIfInBounds_toArray, List.set_cons_zero, List.set_cons_succ]
  refine wpAnyH_take (i := 5) (v := ?v5) rfl (by kernel_rfl) (by kernel_rfl) (by kernel_rfl) (fun _ _ _ h => h) (Or.inl ⟨by rfl, ?hy5⟩) (by assumption) ?rest5
  case hy5 => intro w hSw; go_simp <;> with_reducible rfl
  simp only [Act.put, List.getElem_toArray, List.getElem_cons_zero, List.getElem_cons_succ, List.setIfInBounds_toArray, List.set_cons_zero, List.set_cons_succ]
  refine wpAnyH_take (i := 6) (v := ?v6) rfl (by kernel_rfl) (by kernel_rfl) (by kernel_rfl) (fun _ _ _ h => h) (Or.inl ⟨by rfl, ?hy6⟩) (by assumption) ?rest6
  case hy6 => intro w hSw; go_simp <;> with_reducible rfl
  simp only [Act.put, List.getElem_toArray, List.getElem_cons_zero, List.getElem_cons_succ, List.setIfInBounds_toArray, List.set_cons_zero, List.set_cons_succ]
  refine wpAnyH_take (i := 7) (v := ?v7) rfl (by kernel_rfl) (by kernel_rfl) (by kernel_rfl) (fun _ _ _ h => h) (Or.inl ⟨by rfl, ?hy7⟩) (by assumption) ?rest7
  case hy7 => intro w hSw; go_simp <;> with_reducible rfl
  simp only [Act.put, List.getElem_toArray, List.getElem_cons_zero, List.getElem_cons_succ, List.setIfInBounds_toArray, List.set_cons_zero, List.set_cons_succ]
  refine wpAnyH_take (i := 8) (v := ?v8) rfl (by kernel_rfl) (by kernel_rfl) (by kernel_rfl) (fun _ _ _ h => h) (Or.inl ⟨by rfl, ?hy8⟩) (by assumption) ?rest8
  case hy8 => intro w hSw; go_simp <;> with_reducible rfl
  simp only [Act.put, List.getElem_toArray, List.getElem_cons_zero, List.getElem_cons_succ, List.setIfInBounds_toArray, List.set_cons_zero, List.set_cons_succ]
  refine wpAnyH_take (i := 9) (v := ?v9) rfl (by kernel_rfl) (by kernel_rfl) (by kernel_rfl) (fun _ _ _ h => h) (Or.inl ⟨by rfl, ?hy9⟩) (by assumption) ?rest9
  case hy9 => intro w hSw; go_simp <;> with_reducible rfl
  simp only [Act.put, List.getElem_toArray, List.getElem_cons_zero, List.getElem_cons_succ, List.setIfInBounds_toArray, List.set_cons_zero, List.set_cons_succ]
  refine wpAnyH_take (i := 10) (v := ?v10) rfl (by kernel_rfl) (by kernel_rfl) (by kernel_rfl) (fun _ _ _ h => h) (Or.inl ⟨by rfl, ?hy10⟩) (by assumption) ?rest10
  case hy10 => intro w hSw; go_simp <;> with_reducible rfl
  simp only [Act.put, List.getElem_toArray, List.getElem_cons_zero, List.getElem_cons_succ, List.setIfInBounds_toArray, List.set_cons_zero, List.set_cons_succ]
  refine wpAnyH_take (i := 11) (v := ?v11) rfl (by kernel_rfl) (by kernel_rfl) (by kernel_rfl) (fun _ _ _ h => h) (Or.inl ⟨by rfl, ?hy11⟩) (by assumption) ?rest11
  case hy11 => intro w hSw; go_simp <;> with_reducible rfl
  simp only [Act.put, List.getElem_toArray, List.getElem_cons_zero, List.getElem_cons_succ, List.setIfInBounds_toArray, List.set_cons_zero, List.set_cons_succ]
  refine wpAnyH_ready (rs := [12]) (by kernel_rfl) (by simp) ?_
  refine AllReadyH.cons rfl (fun K hK => ?_) AllReadyH.nil
  go_simp
  rw [HW.out]
  refine (must_no _ _).mono ?_
  rintro e w' ⟨rfl, rfl⟩
  exact ⟨rfl, rfl, hb.drew⟩

set_option maxHeartbeats 800000 in
theorem blobR_ok (R : Nat) (v : Value) (zs : List Int) (p k : Nat) (n : Int) (w : World) (hm : zs.length ≤ 140737488355328) (hk : n = k) (hp : p + k ≤ zs.length) (hs : SeesB R w .u8 v zs) (hR : R < w.heap.size)
    (HN : Hid (Calls Tryz.prog 111 #[.pointer (some ⟨R, 0, none⟩)] w fun e w' => e = .returned (.int .i64 n) ∧ Below R w w' ∧ AtR w' R v p ∧ w'.heap.size = w.heap.size)) :
    Calls Tryz.prog 132 #[.pointer (some ⟨R, 0, none⟩)] w fun e w' => ∃ x, e = .returned x ∧ AtR w' R v (p + k) ∧ Below R w w' ∧ w'.ownsRow w.heap.size 5 1 x k (ints .u8 ((zs.drop p).take k)) := by
  subst hk
  have hs0 := hs
  obtain ⟨ao, cap, rfl, hlc, hnil, hc⟩ := hs
  clear hc
  have hle : decide ((k : Int) ≤ (zs.length : Int) - (p : Int)) = true := by simp; omega
  go_enter Tryz.func132, Tryz.ntmps132
  go_wp2_with (first
    | (go_at_call 111; refine (unhide HN).mono ?_; rintro e w1 ⟨rfl, hb, hat, hz⟩; have HZ := hide hz; clear hz)
    | (go_at_call_of 112 (Value.bool true); refine (must_ok _ _).mono ?_; rintro e w2 ⟨rfl, rfl⟩))
  have h0 := hat.c0
  have h1 := hat.c1
  go_quiet ((go_at_call 112; exact Calls.quiet_of_same (must_okq _ _)))
  have hat2 : AtR (w1.drewN nq) R (.slice ao zs.length cap) p := hat
  have hb2 : Below R w (w1.drewN nq) := below_drewN hb nq
  have hs2 := hs0.below hb2 (Nat.le_refl _)
  have HZ2 : Hid ((w1.drewN nq).heap.size = w.heap.size) := HZ.out
  generalize w1.drewN nq = w2 at *
  clear h0 h1 hle hat hb
  have HX := hide (next_ok R _ zs p k _ w2 rfl hat2 hs2 hm hp)
  go_wp2_with (go_at_call 113; refine (unhide HX).mono ?_; rintro e w3 ⟨rv, rfl, hsr, hat3, hb3, hz3⟩; have HZ3 := hide hz3.1; clear hz3)
  have hl : ((zs.drop p).take k).length = k := by simp; omega
  refine (copied_int rv _ 0 w3 hsr.sees (by omega) (by rw [hl]; omega)).mono ?_
  rintro e w4 ⟨x, rfl, ho, hb4⟩
  have hsz3 : w3.heap.size = w.heap.size := HZ3.out.trans HZ2.out
  rw [hl, hsz3] at ho
  rw [hsz3] at hb4
  have hat4 : AtR w4 R (.slice ao zs.length cap) (p + k) := (hb4.block R hR).trans hat3
  go_wp2
  go_ret
  exact ⟨_, rfl, hat4, (hb2.trans hb3).trans (hb4.mono (by omega)), ho⟩

/-- The blob with which bytes begin, how many bytes all of it has, and what is wrong with them. -/
def tb (l : List Int) : List Int × Nat × Int :=
  if (tn l).2.2 ≠ 0 then ([], 0, (tn l).2.2)
  else if (tn l).1 < 0 then ([], 0, 11)
  else if (l.length : Int) - (tn l).2.1 < (tn l).1 then ([], 0, 10)
  else ((l.drop (tn l).2.1).take (tn l).1.toNat, (tn l).2.1 + (tn l).1.toNat, 0)

theorem tn_le (l : List Int) (h : (tn l).2.2 = 0) : 1 ≤ (tn l).2.1 ∧ (tn l).2.1 ≤ l.length := by
  cases l with
  | nil => simp [tn] at h
  | cons x r =>
    simp only [tn] at h ⊢
    by_cases c1 : 17 < x ∨ x = 1
    · simp only [if_pos c1] at h; simp at h
    simp only [if_neg c1] at h ⊢
    by_cases c2 : r.length < (x / 2).toNat
    · simp only [if_pos c2] at h; simp at h
    simp only [if_neg c2] at h ⊢
    by_cases c3 : wid (valL (r.take (x / 2).toNat)) ≠ (x / 2).toNat
    · simp only [if_pos c3] at h; simp at h
    simp only [if_neg c3] at h ⊢
    simp only [List.length_cons]
    by_cases c4 : x % 2 = 1
    · simp only [if_pos c4] at h ⊢
      by_cases c5 : valL (r.take (x / 2).toNat) ≤ 9223372036854775808
      · simp only [if_pos c5]; omega
      · simp only [if_neg c5] at h; simp at h
    · simp only [if_neg c4] at h ⊢
      by_cases c5 : valL (r.take (x / 2).toNat) < 9223372036854775808
      · simp only [if_pos c5]; omega
      · simp only [if_neg c5] at h; simp at h

/-- What the reader's blob answers. -/
def ReadsB (R : Nat) (v : Value) (p base : Nat) (w : World) (t : List Int × Nat × Int) (e : Ending) (w' : World) : Prop :=
  Below R w w' ∧ (t.2.2 = 0 → ∃ x, e = .returned x ∧ AtR w' R v (p + t.2.1) ∧ w'.ownsRow base 5 1 x t.1.length (ints .u8 t.1)) ∧ (t.2.2 ≠ 0 → e = GiveUp t.2.2)

theorem blobR_any (R : Nat) (v : Value) (zs : List Int) (p : Nat) (w : World) (hat : AtR w R v p) (hs : SeesB R w .u8 v zs) (hby : Byt zs) (hm : zs.length ≤ 140737488355328) (hp : p ≤ zs.length) :
    Calls Tryz.prog 132 #[.pointer (some ⟨R, 0, none⟩)] w fun e w' => ReadsB R v p w.heap.size w (tb (zs.drop p)) e w' := by
  have hnum := number_any R v zs p w hat hs hby hm hp
  have hR := lt_of_block hat
  have hle := tn_le (zs.drop p)
  have hlen : (zs.drop p).length = zs.length - p := List.length_drop
  rw [hlen] at hle
  have hdd : (zs.drop p).drop (tn (zs.drop p)).2.1 = zs.drop (p + (tn (zs.drop p)).2.1) := List.drop_drop
  unfold tb
  rw [hlen, hdd]
  clear hdd hlen
  generalize tn (zs.drop p) = t at *
  obtain ⟨n, k, er⟩ := t
  simp only at *
  by_cases he : er ≠ 0
  · rw [if_pos he]
    refine (blobR_num R er w (hide (hnum.mono fun e w' h => ⟨h.2.2 he, h.1⟩))).mono ?_
    rintro e w' ⟨rfl, hb⟩
    exact ⟨hb, fun h0 => absurd h0 he, fun _ => rfl⟩
  have he0 : er = 0 := by simpa using he
  subst he0
  rw [if_neg he]
  have hle' := hle rfl
  by_cases hn : n < 0
  · rw [if_pos hn]
    refine (blobR_neg R n w hn (hide (hnum.mono fun e w' h => ⟨(h.2.1 rfl).1, h.1⟩))).mono ?_
    rintro e w' ⟨rfl, hb⟩
    exact ⟨hb, fun h0 => absurd h0 (by decide), fun _ => rfl⟩
  rw [if_neg hn]
  by_cases hsh : ((zs.length - p : Nat) : Int) - k < n
  · rw [if_pos hsh]
    obtain ⟨ao, cap, rfl, hlc, hnil, hc⟩ := hs
    refine (blobR_short R ao zs.length cap (p + k) n w hm (by omega) (by omega) (by omega) (hide (hnum.mono fun e w' h => ⟨(h.2.1 rfl).1, h.1, (h.2.1 rfl).2.1⟩))).mono ?_
    rintro e w' ⟨rfl, hb⟩
    exact ⟨hb, fun h0 => absurd h0 (by decide), fun _ => rfl⟩
  rw [if_neg hsh]
  refine (blobR_ok R v zs (p + k) n.toNat n w hm (by omega) (by omega) hs hR (hide (hnum.mono fun e w' h => ⟨(h.2.1 rfl).1, h.1, (h.2.1 rfl).2.1, (h.2.1 rfl).2.2.1⟩))).mono ?_
  rintro e w' ⟨x, rfl, hat', hb, ho⟩
  refine ⟨hb, fun _ => ⟨x, rfl, by rw [← Nat.add_assoc]; exact hat', ?_⟩, fun h => absurd rfl h⟩
  have hl : ((zs.drop (p + k)).take n.toNat).length = n.toNat := by simp; omega
  rw [hl]; exact ho

end Go.Proofs.YtggllgimlfchhabGreat

/- One form: what is taken of bytes is, put again, just the bytes that it had. -/
namespace Go.Proofs.YtggllgimlfchhabGreat
open Go.RowKit
set_option maxRecDepth 100000

theorem numB_of (h : Int) (r : List Int) (hr : Byt r) (k : Nat) (hk : h / 2 = k) (hl : k ≤ r.length) (u : Int) (hu : valL (r.take k) = u) (hw : wid u = k) (n : Int) (hs : (h % 2 = 1 ∧ n = -u ∧ n < 0) ∨ (h % 2 = 0 ∧ n = u ∧ 0 ≤ n)) (h0 : 0 ≤ u) :
    numB n = h :: r.take k := by
  have hlen : (r.take k).length = k := by simp; omega
  have hlow := low_valL (r.take k) (hr.take k)
  rw [hlen, hu] at hlow
  rcases hs with ⟨h1, rfl, h3⟩ | ⟨h1, rfl, h3⟩
  · have hm : mag (-u) = u := by unfold mag; split <;> omega
    simp only [numB, hm, hw, if_pos h3, hlow]
    congr 1; omega
  · have hm : mag n = n := by unfold mag; split <;> omega
    simp only [numB, hm, hw, hlow]
    rw [if_neg (by omega)]
    congr 1; omega

theorem tn_put (l : List Int) (hl : Byt l) (h : (tn l).2.2 = 0) : numB (tn l).1 = l.take (tn l).2.1 ∧ -9223372036854775808 ≤ (tn l).1 ∧ (tn l).1 ≤ 9223372036854775807 := by
  cases l with
  | nil => simp [tn] at h
  | cons x r =>
    have hx := hl x (List.mem_cons_self ..)
    have hr : Byt r := fun b hb => hl b (List.mem_cons_of_mem _ hb)
    obtain ⟨k, hk⟩ : ∃ k, (x / 2).toNat = k := ⟨_, rfl⟩
    have hk2 : x / 2 = (k : Int) := by omega
    obtain ⟨u, hu⟩ : ∃ u, valL (r.take k) = u := ⟨_, rfl⟩
    have hv := (valL_bound (r.take k) (hr.take k)).1
    rw [hu] at hv
    simp only [tn, hk, hu] at h ⊢
    by_cases c1 : 17 < x ∨ x = 1
    · simp only [if_pos c1] at h; simp at h
    simp only [if_neg c1] at h ⊢
    by_cases c2 : r.length < k
    · simp only [if_pos c2] at h; simp at h
    simp only [if_neg c2] at h ⊢
    by_cases c3 : wid u ≠ k
    · simp only [if_pos c3] at h; simp at h
    simp only [if_neg c3] at h ⊢
    have hw : wid u = k := by simpa using c3
    have htk : (x :: r).take (1 + k) = x :: r.take k := by rw [Nat.add_comm, List.take_succ_cons]
    by_cases c4 : x % 2 = 1
    · simp only [if_pos c4] at h ⊢
      by_cases c5 : u ≤ 9223372036854775808
      · simp only [if_pos c5]
        have hu1 : 0 < u := by
          by_cases e : u = 0
          · subst e; have : k = 0 := by rw [← hw]; rfl
            omega
          · omega
        rw [htk]
        exact ⟨numB_of x r hr k hk2 (by omega) u hu hw (-u) (.inl ⟨c4, rfl, by omega⟩) hv, by omega, by omega⟩
      · simp only [if_neg c5] at h; simp at h
    · simp only [if_neg c4] at h ⊢
      by_cases c5 : u < 9223372036854775808
      · simp only [if_pos c5]
        rw [htk]
        exact ⟨numB_of x r hr k hk2 (by omega) u hu hw u (.inr ⟨by omega, rfl, hv⟩) hv, by omega, by omega⟩
      · simp only [if_neg c5] at h; simp at h

theorem tb_put (l : List Int) (hl : Byt l) (h : (tb l).2.2 = 0) : putL [((tb l).1.length : Int)] ++ (tb l).1 = l.take (tb l).2.1 ∧ 1 ≤ (tb l).2.1 ∧ (tb l).2.1 ≤ l.length ∧ (tb l).1.length ≤ l.length := by
  have hp := tn_put l hl
  have hle := tn_le l
  unfold tb at h ⊢
  generalize tn l = t at *
  obtain ⟨n, k, er⟩ := t
  simp only at *
  by_cases c1 : er ≠ 0
  · rw [if_pos c1] at h; exact absurd h c1
  rw [if_neg c1] at h ⊢
  have c1' : er = 0 := by simpa using c1
  have hp' := (hp c1').1
  have hle' := hle c1'
  by_cases c2 : n < 0
  · rw [if_pos c2] at h; simp at h
  rw [if_neg c2] at h ⊢
  by_cases c3 : (l.length : Int) - k < n
  · rw [if_pos c3] at h; simp at h
  rw [if_neg c3]
  have hlen : ((l.drop k).take n.toNat).length = n.toNat := by simp; omega
  simp only [hlen, putL, List.append_nil]
  refine ⟨?_, by omega, by omega, by omega⟩
  rw [show ((n.toNat : Nat) : Int) = n from by omega, hp', List.take_add]

end Go.Proofs.YtggllgimlfchhabGreat
