/- The document's Decode. -/
import Derived.Test.YtiijbklaapaheaaEB
import Derived.Test.YtiijbklaapaheaaCC
import Derived.Test.YtiijbklaapaheaaKC
import Derived.Test.YtiijbklaapaheaaR3
namespace Go.Proofs.Ytiijbklaapaheaa
open Go.RowKit
set_option maxRecDepth 100000

theorem append_upon {P : Program} {o : Oper} {a : Act} {w w' : World} {K : Act → World → Prop} {Q : Exit → Act → World → Prop} {s x : Operand} {t : TypeId} {v sv v' : Value}
    (ho : o.op = .call { callee := .builtin .append, args := #[s, x], argTypes := #[t, t] }) (hs : a.eval s = v) (hx : a.eval x = sv) (hr : (Builtin.append_ #[t, t] o.type #[v, sv]).run P w = .ok v' w') (h : K (a.put o.dst v') w') : Oper.wp P o a w K Q := by
  unfold Oper.wp
  simp [execOp, ho, resolve, invoke, builtin, hs, hx, hr, Result.andThen]
  exact h

/-- append(s, x...), as a run. -/
theorem run_append_sees {w : World} (base : Nat) (v : Value) (xs : List Int) (hown : w.ownsRow base 5 1 v xs.length (ints .u8 xs)) (sv : Value) (zs : List Int) (hsee : Sees w .u8 sv zs) (hn : xs.length + zs.length ≤ 1099511627776) (hbase : base ≤ w.heap.size) (ty : TypeId) :
    ∃ v' w', (Builtin.append_ #[22, 22] ty #[v, sv]).run Try.prog w = .ok v' w' ∧ w'.ownsRow base 5 1 v' (xs ++ zs).length (ints .u8 (xs ++ zs)) ∧ w.grownBy w' v.ownBlock := by
  obtain ⟨i0, hi, hz0, hz1, hz2⟩ := info_parts Try.info5
  obtain ⟨ao, cap, rfl, hl, hnil, hc⟩ := hsee
  cases ao with
  | none =>
    obtain rfl := hnil rfl
    obtain rfl : zs = [] := List.length_eq_zero_iff.1 (by omega)
    exact ⟨v, w, run_append_owned_none (P := Try.prog) (w := w) base 22 ty 5 i0 1 Try.underlying22 hi v _ _ hown, by simpa using hown, grownBy_refl _ _⟩
  | some ad =>
    obtain ⟨v', w', h1, h2, h3, _⟩ := run_append_own (P := Try.prog) w base 22 ty 5 i0 (.int .u8 0) 1 1 Try.underlying22 hi hz0 hz1 hz2 rfl (by decide) v _ _ hown ad zs.length cap (ints .u8 zs) (by rw [ints_length]; omega)
      (fun j u hu => by obtain ⟨hj, rfl⟩ := ints_get hu; exact hc ad rfl j hj) (ints_cell _ _) (by unfold maxLen; omega) (by omega) hbase
    exact ⟨v', w', h1, by rw [ints_append, List.length_append]; exact h2, h3⟩

/-- What the document's Decode answers. -/
def RDec (w w' : World) (c : Ck) (e : Ending) : Prop := ∃ dv, e = .returned (.tuple #[.agg #[.int .i64 c.num, .int .i64 c.slot, .int .i64 c.last, dv], .int .i64 c.err]) ∧ Sees w' .u8 dv c.data ∧ Below w.heap.size w w'
theorem rdec_bad {w w' : World} (hb : Below w.heap.size w w') : RDec w w' .bad (.returned (.tuple #[.agg #[.int .i64 0, .int .i64 0, .int .i64 0, .slice none 0 0], .int .i64 60])) :=
  ⟨_, rfl, Sees.nil _ _, hb⟩

theorem st4_cells {x : World} {b : Nat} {u0 u1 u2 u3 v0 v1 v2 v3 : Value} (h0 : x.cell? ⟨b, 0, none⟩ = some u0) (h1 : x.cell? ⟨b, 1, none⟩ = some u1) (h2 : x.cell? ⟨b, 2, none⟩ = some u2) (h3 : x.cell? ⟨b, 3, none⟩ = some u3) :
    ((((x.setCell ⟨b, 0, none⟩ v0).setCell ⟨b, 1, none⟩ v1).setCell ⟨b, 2, none⟩ v2).setCell ⟨b, 3, none⟩ v3).cell? ⟨b, 0, none⟩ = some v0 ∧ ((((x.setCell ⟨b, 0, none⟩ v0).setCell ⟨b, 1, none⟩ v1).setCell ⟨b, 2, none⟩ v2).setCell ⟨b, 3, none⟩ v3).cell? ⟨b, 1, none⟩ = some v1 ∧ ((((x.setCell ⟨b, 0, none⟩ v0).setCell ⟨b, 1, none⟩ v1).setCell ⟨b, 2, none⟩ v2).setCell ⟨b, 3, none⟩ v3).cell? ⟨b, 2, none⟩ = some v2 ∧ ((((x.setCell ⟨b, 0, none⟩ v0).setCell ⟨b, 1, none⟩ v1).setCell ⟨b, 2, none⟩ v2).setCell ⟨b, 3, none⟩ v3).cell? ⟨b, 3, none⟩ = some v3 := by
  obtain ⟨k0, k1, k2⟩ := st3_cells (v0 := v0) (v1 := v1) (v2 := v2) h0 h1 h2
  refine ⟨?_, ?_, ?_, ?_⟩
  · rw [cs_other (addr_ne (Or.inr (by decide)))]; exact k0
  · rw [cs_other (addr_ne (Or.inr (by decide)))]; exact k1
  · rw [cs_other (addr_ne (Or.inr (by decide)))]; exact k2
  · exact cs_same (by rw [cs_other (addr_ne (Or.inr (by decide))), cs_other (addr_ne (Or.inr (by decide))), cs_other (addr_ne (Or.inr (by decide)))]; exact h3)
theorem st4_below {N b : Nat} {w x : World} (h : Below N w x) (hb : N ≤ b) (v0 v1 v2 v3 : Value) : Below N w ((((x.setCell ⟨b, 0, none⟩ v0).setCell ⟨b, 1, none⟩ v1).setCell ⟨b, 2, none⟩ v2).setCell ⟨b, 3, none⟩ v3) :=
  (st3_below h hb v0 v1 v2).setCell (p := ⟨b, 3, none⟩) hb _
theorem box4f {w w1 : World} {x0 x1 x2 x3 : Value} {t : TypeId} (hb : Below (w.heap.size + 1) (w.alloc (.cells #[x0, x1, x2, x3] t)) w1) :
    w1.cell? ⟨w.heap.size, 0, none⟩ = some x0 ∧ w1.cell? ⟨w.heap.size, 1, none⟩ = some x1 ∧ w1.cell? ⟨w.heap.size, 2, none⟩ = some x2 ∧ w1.cell? ⟨w.heap.size, 3, none⟩ = some x3 ∧ ∀ o, w1.frozen? ⟨w.heap.size, o, none⟩ = false := by
  have hh : w1.heap[w.heap.size]? = some (.cells #[x0, x1, x2, x3] t (0, 0)) := (hb.block _ (Nat.lt_succ_self _)).trans (heap_alloc_new _ _)
  refine ⟨?_, ?_, ?_, ?_, fun o => by unfold World.frozen?; rw [hh]; simp⟩ <;> (unfold World.cell?; simp [hh])

theorem tb_byte (l : List Int) (hl : Byt l) : Byt (tb l).1 := by
  unfold tb
  (repeat' split)
  · intro b hb; cases hb
  · intro b hb; cases hb
  · intro b hb; cases hb
  · exact (hl.drop _).take _

theorem rencode_any (number slot last : Int) (ao : Option Addr) (cap : Nat) (ds : List Int) (w : World) (hd : Sees w .u8 (.slice ao ds.length cap) ds) (hby : Byt ds) (hl : ds.length ≤ 9223372036854775807) :
    Calls Try.prog 9 #[.int .i64 number, .agg #[.int .i64 slot, .int .i64 last, .slice ao ds.length cap]] w fun e w' => ∃ a n c, e = .returned (.tuple #[.slice a n c, .int .i64 (faultE number slot last ds.length)]) ∧ Below w.heap.size w w' := by
  by_cases hf : faultE number slot last ds.length = 0
  · refine (rencode_ok number slot last _ ds w hd hby hf).mono ?_
    rintro e w' ⟨v, rfl, ho, hb⟩
    obtain ⟨a, c, rfl⟩ := own_shape ho
    exact ⟨_, _, _, by rw [hf], hb⟩
  · refine (rencode_err number slot last ao ds.length cap w hl hf).mono ?_
    rintro e w' ⟨rfl, hb⟩
    exact ⟨_, _, _, rfl, hb⟩

set_option maxHeartbeats 3200000 in
theorem rdecode_any (bv : Value) (zs : List Int) (w : World) (hs : Sees w .u8 bv zs) (hby : Byt zs) (hm : zs.length ≤ 9223372036854775807) :
    Calls Try.prog 11 #[bv] w fun e w' => RDec w w' (dec zs) e := by
  obtain ⟨B, hB⟩ : ∃ B, w.alloc (.cells #[.int .i64 0, .int .i64 0, .int .i64 0, .slice none 0 0] 33) = B := ⟨_, rfl⟩
  have hal : Below w.heap.size w B := hB ▸ (Below.refl _ _).alloc (Nat.le_refl _) _
  have hsz : B.heap.size = w.heap.size + 1 := by rw [← hB]; simp
  have HBX : Hid (∀ x, Below B.heap.size B x → x.cell? ⟨w.heap.size, 0, none⟩ = some (.int .i64 0) ∧ x.cell? ⟨w.heap.size, 1, none⟩ = some (.int .i64 0) ∧ x.cell? ⟨w.heap.size, 2, none⟩ = some (.int .i64 0) ∧ x.cell? ⟨w.heap.size, 3, none⟩ = some (.slice none 0 0) ∧ ∀ o, x.frozen? ⟨w.heap.size, o, none⟩ = false) := fun x hx => box4f (by rw [hB, ← hsz]; exact hx)
  have HU := hide (refUnseal_any bv zs _ (hs.below hal) hby hm)
  have HAL := hide hal
  have HSZ := hide hsz
  have hd1 := tu_byte zs hby
  have hd2 := tu_le zs
  have hnr := nrun_le (tu zs).1 3
  obtain ⟨ao, cap, rfl, hlc, hnil, hc⟩ := hs
  unfold dec
  generalize tu zs = U at HU hd1 hd2 hnr ⊢
  obtain ⟨d, dn, de⟩ := U
  simp only at HU hd1 hd2 hnr ⊢
  clear hc hal hsz
  by_cases ce : de = 0
  case neg =>
    rw [if_pos ce]
    have ce' : ((de : Int) != 0) = true := by simp [ce]
    go_enter Try.func11, Try.ntmps11
    go_wp2_with (rw [hB])
    refine (unhide HU).mono ?_
    rintro e w1 ⟨x1, rfl, s1, hb1⟩
    obtain ⟨a1, c1, rfl, _⟩ := s1
    have HB1 := hide hb1
    have HF1 := hide ((unhide HAL).trans ((unhide HB1).mono (unhide HAL).size))
    clear hb1
    obtain ⟨q0, q1, q2, q3, qf⟩ := unhide HBX w1 (unhide HB1)
    go_wp2
    obtain ⟨k0, k1, k2, k3⟩ := st4_cells (v0 := .int .i64 0) (v1 := .int .i64 0) (v2 := .int .i64 0) (v3 := .slice none 0 0) q0 q1 q2 q3
    refine bodyPost_ret (v := .tuple #[.agg #[.int .i64 0, .int .i64 0, .int .i64 0, .slice none 0 0], .int .i64 60]) (by simp [results, Try.results11, go_sem, k0, k1, k2, k3]) rfl ?_
    exact rdec_bad (st4_below (unhide HF1) (Nat.le_refl _) _ _ _ _)
  rw [if_neg (not_not_intro ce)]
  subst ce
  have HNy : Hid (∀ (bv : Value) (w : World), Sees w .u8 bv d → Calls Try.prog 38 #[bv, .int .i64 3] w fun e w' => ∃ x y, e = .returned (.tuple #[x, y, .int .i64 (nrun d 3).2.2]) ∧ Sees w' .i64 x (nrun d 3).1 ∧ Sees w' .u8 y (d.drop (nrun d 3).2.1) ∧ Below w.heap.size w w') := fun bv w h => refNums_any bv d 3 w h hd1 (by omega) (by decide)
  generalize nrun d 3 = R at HNy hnr ⊢
  obtain ⟨l, ln, le⟩ := R
  simp only at HNy hnr ⊢
  have hr1 : Byt (d.drop ln) := fun b hb => hd1 b (List.mem_of_mem_drop hb)
  have hr2 : (d.drop ln).length ≤ 1048576 := by rw [List.length_drop]; omega
  generalize d.drop ln = rest at HNy hr1 hr2 ⊢
  by_cases cl : le = 0
  case neg =>
    rw [if_pos cl]
    have cl' : ((le : Int) != 0) = true := by simp [cl]
    go_enter Try.func11, Try.ntmps11
    go_wp2_with (rw [hB])
    refine (unhide HU).mono ?_
    rintro e w1 ⟨x1, rfl, s1, hb1⟩
    have HB1 := hide hb1
    have HC1 := hide (unhide HNy _ w1 s1)
    obtain ⟨a1, c1, rfl, _⟩ := s1
    clear hb1
    go_wp2_with fail
    refine (unhide HC1).mono ?_
    rintro e w2 ⟨x2, y2, rfl, s2, t2, hb2⟩
    have HB2 := hide ((unhide HB1).trans (hb2.mono (unhide HB1).size))
    have HF2 := hide ((unhide HAL).trans ((unhide HB2).mono (unhide HAL).size))
    obtain ⟨b2, cb2, rfl, _⟩ := s2
    obtain ⟨e2, ce2, rfl, _⟩ := t2
    clear hb2
    obtain ⟨q0, q1, q2, q3, qf⟩ := unhide HBX w2 (unhide HB2)
    go_wp2
    obtain ⟨k0, k1, k2, k3⟩ := st4_cells (v0 := .int .i64 0) (v1 := .int .i64 0) (v2 := .int .i64 0) (v3 := .slice none 0 0) q0 q1 q2 q3
    refine bodyPost_ret (v := .tuple #[.agg #[.int .i64 0, .int .i64 0, .int .i64 0, .slice none 0 0], .int .i64 60]) (by simp [results, Try.results11, go_sem, k0, k1, k2, k3]) rfl ?_
    exact rdec_bad (st4_below (unhide HF2) (Nat.le_refl _) _ _ _ _)
  rw [if_neg (not_not_intro cl)]
  subst cl
  have hl3 : l.length = 3 := (hnr.2.1 rfl).1
  obtain ⟨l0, l1, l2, rfl⟩ : ∃ a b c, l = [a, b, c] := by match l, hl3 with | [a, b, c], _ => exact ⟨a, b, c, rfl⟩
  simp only [List.getD_cons_zero, List.getD_cons_succ]
  have HTy : Hid (∀ (bv : Value) (w : World), Sees w .u8 bv rest → Calls Try.prog 39 #[bv] w fun e w' => ∃ x, e = .returned (.tuple #[x, .int .i64 (tb rest).2.1, .int .i64 (tb rest).2.2]) ∧ Sees w' .u8 x (tb rest).1 ∧ Below w.heap.size w w') := fun bv w h => refTakeBlob_any bv rest w h hr1 (by omega)
  have htp := tb_put rest hr1
  have htB := tb_byte rest hr1
  have htl : (tb rest).1.length ≤ 1048576 := by
    unfold tb
    (repeat' split) <;> simp <;> omega
  generalize tb rest = T at HTy htl htp htB ⊢
  obtain ⟨data, tn', te⟩ := T
  simp only at HTy htl htp htB ⊢
  by_cases cte : te = 0
  case neg =>
    rw [if_pos (Or.inl cte)]
    have ct1 : ((te : Int) != 0) = true := by simp [cte]
    have ct2 : ((te : Int) == 0) = false := by simp [cte]
    go_enter Try.func11, Try.ntmps11
    go_wp2_with (rw [hB])
    refine (unhide HU).mono ?_
    rintro e w1 ⟨x1, rfl, s1, hb1⟩
    have HB1 := hide hb1
    have HC1 := hide (unhide HNy _ w1 s1)
    obtain ⟨a1, c1, rfl, _⟩ := s1
    clear hb1
    go_wp2_with fail
    refine (unhide HC1).mono ?_
    rintro e w2 ⟨x2, y2, rfl, s2, t2, hb2⟩
    have HB2 := hide ((unhide HB1).trans (hb2.mono (unhide HB1).size))
    have HC2 := hide (unhide HTy _ w2 t2)
    obtain ⟨b2, cb2, rfl, _⟩ := s2
    obtain ⟨e2, ce2, rfl, _⟩ := t2
    clear hb2
    go_wp2_with fail
    refine (unhide HC2).mono ?_
    rintro e w3 ⟨x3, rfl, s3, hb3⟩
    obtain ⟨a3, c3, rfl, _⟩ := s3
    have HB3 := hide ((unhide HB2).trans (hb3.mono (unhide HB2).size))
    clear hb3
    go_wp2_with fail
    refine (rencode_err 0 0 0 none 0 0 _ (by decide) (by decide)).mono ?_
    rintro e w4 ⟨rfl, hb4⟩
    have HB4 : Hid (Below B.heap.size B w4) := ((unhide HB3).alloc (unhide HB3).size _).trans (hb4.mono ((unhide HB3).alloc (unhide HB3).size _).size)
    have HF4 := hide ((unhide HAL).trans ((unhide HB4).mono (unhide HAL).size))
    clear hb4
    obtain ⟨q0, q1, q2, q3, qf⟩ := unhide HBX w4 (unhide HB4)
    go_wp2
    obtain ⟨k0, k1, k2, k3⟩ := st4_cells (v0 := .int .i64 0) (v1 := .int .i64 0) (v2 := .int .i64 0) (v3 := .slice none 0 0) q0 q1 q2 q3
    refine bodyPost_ret (v := .tuple #[.agg #[.int .i64 0, .int .i64 0, .int .i64 0, .slice none 0 0], .int .i64 60]) (by simp [results, Try.results11, go_sem, k0, k1, k2, k3]) rfl ?_
    exact rdec_bad (st4_below (unhide HF4) (Nat.le_refl _) _ _ _ _)
  subst cte
  have htn := (htp rfl).2.2.1
  clear htp
  have HEN0 : Hid (∀ (a : Option Addr) (c : Nat) (x : World), Sees x .u8 (.slice a data.length c) data → Calls Try.prog 9 #[.int .i64 l0, .agg #[.int .i64 l1, .int .i64 l2, .slice a data.length c]] x fun e w' => ∃ a n c, e = .returned (.tuple #[.slice a n c, .int .i64 (faultE l0 l1 l2 data.length)]) ∧ Below x.heap.size x w') := fun a c x h => rencode_any l0 l1 l2 a c data x h htB (by omega)
  generalize faultE l0 l1 l2 data.length = fe at HEN0 ⊢
  suffices key : ∀ c : Ck, Hid (tn' ≠ rest.length → c = .bad) → Hid (tn' = rest.length → fe ≠ 0 → c = .bad) → Hid (tn' = rest.length → fe = 0 → c = ⟨l0, l1, l2, data, 0⟩) → Calls Try.prog 11 #[.slice ao zs.length cap] w fun e w' => RDec w w' c e by
    refine key _ ?_ ?_ ?_
    · intro h; rw [if_pos (Or.inr h)]
    · intro h1 h2; rw [if_neg (by simp [h1]), if_pos h2]
    · intro h1 h2; rw [if_neg (by simp [h1]), if_neg (not_not_intro h2)]
  intro c hc1 hc2 hc3
  go_enter Try.func11, Try.ntmps11
  go_wp2_with (rw [hB])
  refine (unhide HU).mono ?_
  rintro e w1 ⟨x1, rfl, s1, hb1⟩
  have HB1 := hide hb1
  have HC1 := hide (unhide HNy _ w1 s1)
  obtain ⟨a1, c1, rfl, _⟩ := s1
  clear hb1
  go_wp2_with fail
  refine (unhide HC1).mono ?_
  rintro e w2 ⟨x2, y2, rfl, s2, t2, hb2⟩
  have HB2 := hide ((unhide HB1).trans (hb2.mono (unhide HB1).size))
  have HC2 := hide (unhide HTy _ w2 t2)
  have HS2 := hide s2
  obtain ⟨b2, cb2, rfl, hcb2, hnb2, hcc2⟩ := s2
  obtain ⟨e2, ce2, rfl, _⟩ := t2
  clear hb2
  go_wp2_with fail
  refine (unhide HC2).mono ?_
  rintro e w3 ⟨x3, rfl, s3, hb3⟩
  have HS3 := hide ((unhide HS2).below hb3)
  have HD3 := hide s3
  obtain ⟨a3, c3, rfl, _⟩ := s3
  have HB3 := hide ((unhide HB2).trans (hb3.mono (unhide HB2).size))
  have HF3 := hide ((unhide HAL).trans ((unhide HB3).mono (unhide HAL).size))
  clear hb3
  obtain ⟨A, rfl⟩ : ∃ A, b2 = some A := by
    cases b2 with
    | some A => exact ⟨A, rfl⟩
    | none => have := hnb2 rfl; simp at hcb2; omega
  have HLX : Hid (∀ x, Below w3.heap.size w3 x → x.cell? A = some (.int .i64 l0) ∧ x.cell? ⟨A.block, A.off + 1, none⟩ = some (.int .i64 l1) ∧ x.cell? ⟨A.block, A.off + 2, none⟩ = some (.int .i64 l2)) := by
    intro x hx
    obtain ⟨a', c', hq, _, _, hcc⟩ := (unhide HS3).below hx
    injection hq with hq1 hq2 hq3
    subst hq1
    exact ⟨hcc A rfl 0 (by simp), hcc A rfl 1 (by simp), hcc A rfl 2 (by simp)⟩
  clear hcb2 hnb2 hcc2
  go_wp2
  obtain ⟨D, hD⟩ : ∃ D, w3.alloc (.cells #[.int .i64 0, .int .i64 0, .int .i64 0, .slice none 0 0] 33) = D := ⟨_, rfl⟩
  have bD : Below w3.heap.size w3 D := hD ▸ (Below.refl _ _).alloc (Nat.le_refl _) _
  have hsD : D.heap.size = w3.heap.size + 1 := by rw [← hD]; simp
  have HDX : Hid (∀ x, Below D.heap.size D x → x.cell? ⟨w3.heap.size, 0, none⟩ = some (.int .i64 0) ∧ x.cell? ⟨w3.heap.size, 1, none⟩ = some (.int .i64 0) ∧ x.cell? ⟨w3.heap.size, 2, none⟩ = some (.int .i64 0) ∧ x.cell? ⟨w3.heap.size, 3, none⟩ = some (.slice none 0 0) ∧ ∀ o, x.frozen? ⟨w3.heap.size, o, none⟩ = false) := fun x hx => box4f (by rw [hD, ← hsD]; exact hx)
  obtain ⟨v5, w5, hr, ho5, hg5⟩ := run_append_sees (w := D.drew) D.heap.size (.slice none 0 0) [] (World.ownsRow_nil _ _ _ _) _ data ((unhide HD3).below bD.drew) (by simp; omega) (Nat.le_refl _) 22
  have b5 : Below D.heap.size D w5 := (Below.refl D.heap.size D).drew.trans (grown_below (Nat.le_refl _) hg5 (fun r h => by simp [Value.ownBlock] at h))
  have HBD5 : Hid (Below w3.heap.size w3 w5) := bD.trans (b5.mono bD.size)
  obtain ⟨z0, z1, z2, z3, zf⟩ := unhide HDX w5 b5
  rw [List.nil_append] at ho5
  obtain ⟨a5, c5, rfl⟩ := own_shape ho5
  have HO5 := hide ho5
  have HSD := hide hsD
  have HBD := hide bD
  have HB5 := hide b5
  rw [hD]
  clear hD hsD bD b5 ho5 hg5
  refine wp_region_held_drew (S := fun x => x.cell? A = some (.int .i64 l0) ∧ x.cell? ⟨A.block, A.off + 1, none⟩ = some (.int .i64 l1) ∧ x.cell? ⟨A.block, A.off + 2, none⟩ = some (.int .i64 l2)) (by kernel_rfl) (unhide HLX _ (unhide HBD).drew) (fun hHeld => ?_)
  refine wpAnyH_take (i := 0) (v := ?v1x0) rfl (by kernel_rfl) (by kernel_rfl) (by kernel_rfl) (fun _ _ _ h => h) (Or.inl ⟨by rfl, ?hy1x0⟩) (by assumption) ?rest1x0
  case hy1x0 => intro w hSw; obtain ⟨s0, s1, s2⟩ := hSw; go_simp <;> with_reducible rfl
  simp only [Act.put, List.getElem_toArray, List.getElem_cons_zero, List.setIfInBounds_toArray, List.set_cons_zero, List.set_cons_succ]
  refine wpAnyH_take (i := 1) (v := ?v2x1) rfl (by kernel_rfl) (by kernel_rfl) (by kernel_rfl) (fun _ _ _ h => h) (Or.inl ⟨by rfl, ?hy2x1⟩) (by assumption) ?rest2x1
  case hy2x1 => intro w hSw; obtain ⟨s0, s1, s2⟩ := hSw; go_simp <;> with_reducible rfl
  simp only [Act.put, List.getElem_toArray, List.getElem_cons_zero, List.getElem_cons_succ, List.setIfInBounds_toArray, List.set_cons_zero, List.set_cons_succ]
  refine wpAnyH_take (i := 2) (v := (.int .i64 l0)) rfl (by kernel_rfl) (by kernel_rfl) (by kernel_rfl) (fun _ _ _ h => h) (Or.inl ⟨by rfl, ?hy3x2⟩) (by assumption) ?rest3x2
  case hy3x2 => intro w hSw; obtain ⟨s0, s1, s2⟩ := hSw; go_simp <;> with_reducible rfl
  simp only [Act.put, List.getElem_toArray, List.getElem_cons_zero, List.getElem_cons_succ, List.setIfInBounds_toArray, List.set_cons_zero, List.set_cons_succ]
  refine wpAnyH_take (i := 3) (v := ?v4x3) rfl (by kernel_rfl) (by kernel_rfl) (by kernel_rfl) (fun _ _ _ h => h) (Or.inl ⟨by rfl, ?hy4x3⟩) (by assumption) ?rest4x3
  case hy4x3 => intro w hSw; obtain ⟨s0, s1, s2⟩ := hSw; go_simp <;> with_reducible rfl
  simp only [Act.put, List.getElem_toArray, List.getElem_cons_zero, List.getElem_cons_succ, List.setIfInBounds_toArray, List.set_cons_zero, List.set_cons_succ]
  refine wpAnyH_take (i := 4) (v := ?v5x4) rfl (by kernel_rfl) (by kernel_rfl) (by kernel_rfl) (fun _ _ _ h => h) (Or.inl ⟨by rfl, ?hy5x4⟩) (by assumption) ?rest5x4
  case hy5x4 => intro w hSw; obtain ⟨s0, s1, s2⟩ := hSw; go_simp <;> with_reducible rfl
  simp only [Act.put, List.getElem_toArray, List.getElem_cons_zero, List.getElem_cons_succ, List.setIfInBounds_toArray, List.set_cons_zero, List.set_cons_succ]
  refine wpAnyH_take (i := 5) (v := (.int .i64 l1)) rfl (by kernel_rfl) (by kernel_rfl) (by kernel_rfl) (fun _ _ _ h => h) (Or.inl ⟨by rfl, ?hy6x5⟩) (by assumption) ?rest6x5
  case hy6x5 => intro w hSw; obtain ⟨s0, s1, s2⟩ := hSw; go_simp <;> with_reducible rfl
  simp only [Act.put, List.getElem_toArray, List.getElem_cons_zero, List.getElem_cons_succ, List.setIfInBounds_toArray, List.set_cons_zero, List.set_cons_succ]
  refine wpAnyH_take (i := 6) (v := ?v7x6) rfl (by kernel_rfl) (by kernel_rfl) (by kernel_rfl) (fun _ _ _ h => h) (Or.inl ⟨by rfl, ?hy7x6⟩) (by assumption) ?rest7x6
  case hy7x6 => intro w hSw; obtain ⟨s0, s1, s2⟩ := hSw; go_simp <;> with_reducible rfl
  simp only [Act.put, List.getElem_toArray, List.getElem_cons_zero, List.getElem_cons_succ, List.setIfInBounds_toArray, List.set_cons_zero, List.set_cons_succ]
  refine wpAnyH_take (i := 7) (v := ?v8x7) rfl (by kernel_rfl) (by kernel_rfl) (by kernel_rfl) (fun _ _ _ h => h) (Or.inl ⟨by rfl, ?hy8x7⟩) (by assumption) ?rest8x7
  case hy8x7 => intro w hSw; obtain ⟨s0, s1, s2⟩ := hSw; go_simp <;> with_reducible rfl
  simp only [Act.put, List.getElem_toArray, List.getElem_cons_zero, List.getElem_cons_succ, List.setIfInBounds_toArray, List.set_cons_zero, List.set_cons_succ]
  refine wpAnyH_take (i := 8) (v := (.int .i64 l2)) rfl (by kernel_rfl) (by kernel_rfl) (by kernel_rfl) (fun _ _ _ h => h) (Or.inl ⟨by rfl, ?hy9x8⟩) (by assumption) ?rest9x8
  case hy9x8 => intro w hSw; obtain ⟨s0, s1, s2⟩ := hSw; go_simp <;> with_reducible rfl
  simp only [Act.put, List.getElem_toArray, List.getElem_cons_zero, List.getElem_cons_succ, List.setIfInBounds_toArray, List.set_cons_zero, List.set_cons_succ]
  refine wpAnyH_take (i := 9) (v := ?v10x9) rfl (by kernel_rfl) (by kernel_rfl) (by kernel_rfl) (fun _ _ _ h => h) (Or.inl ⟨by rfl, ?hy10x9⟩) (by assumption) ?rest10x9
  case hy10x9 => intro w hSw; obtain ⟨s0, s1, s2⟩ := hSw; go_simp <;> with_reducible rfl
  simp only [Act.put, List.getElem_toArray, List.getElem_cons_zero, List.getElem_cons_succ, List.setIfInBounds_toArray, List.set_cons_zero, List.set_cons_succ]
  refine wpAnyH_ready (rs := [10]) (by kernel_rfl) (by simp) ?_
  refine AllReadyH.cons rfl (fun K hK => ?_) AllReadyH.nil
  rw [if_pos (by rfl)]
  refine append_upon rfl rfl rfl hr ?_
  simp only [Act.put, List.getElem_toArray, List.getElem_cons_zero, List.getElem_cons_succ, List.setIfInBounds_toArray, List.set_cons_zero, List.set_cons_succ]
  refine hK _ _ (unhide HLX _ (unhide HBD5)) ?_
  clear hK hHeld
  intro hHeld
  refine wpAnyH_take (i := 11) (v := ?v11x11) rfl (by kernel_rfl) (by kernel_rfl) (by kernel_rfl) (fun _ _ _ h => h) (Or.inl ⟨by rfl, ?hy11x11⟩) (by assumption) ?rest11x11
  case hy11x11 => intro w hSw; obtain ⟨s0, s1, s2⟩ := hSw; go_simp <;> with_reducible rfl
  simp only [Act.put, List.getElem_toArray, List.getElem_cons_zero, List.getElem_cons_succ, List.setIfInBounds_toArray, List.set_cons_zero, List.set_cons_succ]
  refine wpAnyH_take (i := 12) (v := ?v12x12) rfl (by kernel_rfl) (by kernel_rfl) (by kernel_rfl) (fun _ _ _ h => h) (Or.inl ⟨by rfl, ?hy12x12⟩) (by assumption) ?rest12x12
  case hy12x12 => intro w hSw; obtain ⟨s0, s1, s2⟩ := hSw; go_simp <;> with_reducible rfl
  simp only [Act.put, List.getElem_toArray, List.getElem_cons_zero, List.getElem_cons_succ, List.setIfInBounds_toArray, List.set_cons_zero, List.set_cons_succ]
  refine wpAnyH_ready (rs := [13]) (by kernel_rfl) (by simp) ?_
  refine AllReadyH.cons rfl (fun K hK => ?_) AllReadyH.nil
  go_simp
  have HSZZ : Hid (Below w3.heap.size w3 ((((w5.setCell ⟨w3.heap.size, 0, none⟩ (.int .i64 l0)).setCell ⟨w3.heap.size, 1, none⟩ (.int .i64 l1)).setCell ⟨w3.heap.size, 2, none⟩ (.int .i64 l2)).setCell ⟨w3.heap.size, 3, none⟩ (.slice a5 data.length c5))) := st4_below (unhide HBD5) (Nat.le_refl _) _ _ _ _
  refine hK _ _ (unhide HLX _ (unhide HSZZ)) ?_
  clear hK hHeld
  intro hHeld
  refine wpAnyH_done (by kernel_rfl) ?_ _
  have hlt5 : w3.heap.size < D.heap.size := by have := unhide HSD; omega
  have hwlt : w.heap.size < D.heap.size := by have := unhide HSD; have := (unhide HF3).size; omega
  have HWLT := hide hwlt
  obtain ⟨y0, y1, y2, y3⟩ := st4_cells (v0 := .int .i64 l0) (v1 := .int .i64 l1) (v2 := .int .i64 l2) (v3 := .slice a5 data.length c5) z0 z1 z2 z3
  have hoZ := own_set (own_set (own_set (own_set (unhide HO5) (p := ⟨w3.heap.size, 0, none⟩) hlt5 (.int .i64 l0)) (p := ⟨w3.heap.size, 1, none⟩) hlt5 (.int .i64 l1)) (p := ⟨w3.heap.size, 2, none⟩) hlt5 (.int .i64 l2)) (p := ⟨w3.heap.size, 3, none⟩) hlt5 (.slice a5 data.length c5)
  have hZs : ((((w5.setCell ⟨w3.heap.size, 0, none⟩ (.int .i64 l0)).setCell ⟨w3.heap.size, 1, none⟩ (.int .i64 l1)).setCell ⟨w3.heap.size, 2, none⟩ (.int .i64 l2)).setCell ⟨w3.heap.size, 3, none⟩ (.slice a5 data.length c5)).heap.size = w5.heap.size := by simp [World.setCell]
  clear z0 z1 z2 z3 zf hr
  generalize ((((w5.setCell ⟨w3.heap.size, 0, none⟩ (.int .i64 l0)).setCell ⟨w3.heap.size, 1, none⟩ (.int .i64 l1)).setCell ⟨w3.heap.size, 2, none⟩ (.int .i64 l2)).setCell ⟨w3.heap.size, 3, none⟩ (.slice a5 data.length c5)) = Z at *
  have hltZ : w3.heap.size < Z.heap.size := by have := (unhide HB5).size; omega
  have HZX : Hid (∀ x, Below Z.heap.size Z x → x.cell? ⟨w3.heap.size, 0, none⟩ = some (.int .i64 l0) ∧ x.cell? ⟨w3.heap.size, 1, none⟩ = some (.int .i64 l1) ∧ x.cell? ⟨w3.heap.size, 2, none⟩ = some (.int .i64 l2) ∧ x.cell? ⟨w3.heap.size, 3, none⟩ = some (.slice a5 data.length c5)) := by
    intro x hx
    have ec : ∀ o, x.cell? ⟨w3.heap.size, o, none⟩ = Z.cell? ⟨w3.heap.size, o, none⟩ := fun o => hx.cell (p := ⟨w3.heap.size, o, none⟩) hltZ
    exact ⟨(ec 0).trans y0, (ec 1).trans y1, (ec 2).trans y2, (ec 3).trans y3⟩
  have HOZ := hide hoZ
  have HBZ := hide ((unhide HB3).trans ((unhide HSZZ).mono (unhide HB3).size))
  have HEN := hide (unhide HEN0 a5 c5 Z (sees_of_own hoZ).2)
  clear hoZ hZs hlt5 hwlt hltZ
  go_wp2_with fail
  refine (unhide HEN).mono ?_
  rintro e w6 ⟨a6, n6, c6, rfl, hb6⟩
  have HB6 := hide ((unhide HBZ).trans (hb6.mono (unhide HBZ).size))
  have HF6 := hide ((unhide HAL).trans ((unhide HB6).mono (unhide HAL).size))
  have HO6 := hide (own_below (unhide HOZ) hb6)
  clear y0 y1 y2 y3
  obtain ⟨y0, y1, y2, y3⟩ := unhide HZX w6 hb6
  obtain ⟨q0, q1, q2, q3, qf⟩ := unhide HBX w6 (unhide HB6)
  clear hb6
  by_cases cn : tn' = rest.length
  case neg =>
    obtain rfl := unhide hc1 cn
    have cn' : tn' < rest.length := by omega
    have cn2 : ¬ rest.length ≤ tn' := by omega
    clear cn hc1 hc2 hc3
    go_wp2
    obtain ⟨k0, k1, k2, k3⟩ := st4_cells (v0 := .int .i64 0) (v1 := .int .i64 0) (v2 := .int .i64 0) (v3 := .slice none 0 0) q0 q1 q2 q3
    refine bodyPost_ret (v := .tuple #[.agg #[.int .i64 0, .int .i64 0, .int .i64 0, .slice none 0 0], .int .i64 60]) (by simp [results, Try.results11, go_sem, k0, k1, k2, k3]) rfl ?_
    exact rdec_bad (st4_below (unhide HF6) (Nat.le_refl _) _ _ _ _)
  by_cases cf : fe = 0
  case neg =>
    obtain rfl := unhide hc2 cn cf
    have cf' : ((fe : Int) != 0) = true := by simp [cf]
    subst cn
    clear hc1 hc2 hc3
    go_wp2
    obtain ⟨k0, k1, k2, k3⟩ := st4_cells (v0 := .int .i64 0) (v1 := .int .i64 0) (v2 := .int .i64 0) (v3 := .slice none 0 0) q0 q1 q2 q3
    refine bodyPost_ret (v := .tuple #[.agg #[.int .i64 0, .int .i64 0, .int .i64 0, .slice none 0 0], .int .i64 60]) (by simp [results, Try.results11, go_sem, k0, k1, k2, k3]) rfl ?_
    exact rdec_bad (st4_below (unhide HF6) (Nat.le_refl _) _ _ _ _)
  obtain rfl := unhide hc3 cn cf
  subst cf
  subst cn
  clear hc1 hc2 hc3
  go_wp2
  obtain ⟨k0, k1, k2, k3⟩ := st4_cells (v0 := .int .i64 l0) (v1 := .int .i64 l1) (v2 := .int .i64 l2) (v3 := .slice a5 data.length c5) q0 q1 q2 q3
  refine bodyPost_ret (v := .tuple #[.agg #[.int .i64 l0, .int .i64 l1, .int .i64 l2, .slice a5 data.length c5], .int .i64 0]) (by simp [results, Try.results11, go_sem, k0, k1, k2, k3]) rfl ?_
  refine ⟨_, rfl, (sees_of_own (own_set (own_set (own_set (own_set (unhide HO6) (unhide HWLT) _) (unhide HWLT) _) (unhide HWLT) _) (unhide HWLT) _)).2, st4_below (unhide HF6) (Nat.le_refl _) _ _ _ _⟩

end Go.Proofs.Ytiijbklaapaheaa
