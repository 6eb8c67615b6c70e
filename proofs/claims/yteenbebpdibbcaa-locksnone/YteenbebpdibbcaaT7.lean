/- Release. -/
import Derived.Test.YteenbebpdibbcaaT6
namespace Go.Proofs.Yteenbebpdibbcaa
open Go.RowKit
set_option maxRecDepth 100000

section
variable {B : Nat → Prop} {lb mq mp : Nat}
set_option maxHeartbeats 1000000 in
theorem release_none {w : World} {S : Sto} {L : List Am} (h : Mem B lb mq mp w S) (hL : AI S L) (a b : Int) (hk : I.OkK (a, b)) (hid : (a, b) ∉ L.map (·.id)) :
    Calls Try.prog 14 #[PN lb, .agg #[.int .i64 a, .int .i64 b]] w fun e w' => e = .returned (.tuple #[.slice none 0 0, .int .i64 4]) ∧ Below w.heap.size w w' := by
  obtain ⟨W0, hW0⟩ : ∃ z, w.alloc (.cells #[.int .i64 a, .int .i64 b] 29) = z := ⟨_, rfl⟩
  have b0 : Below w.heap.size w W0 := hW0 ▸ below_box _
  have m0 := h.below b0
  have hbox : W0.heap[w.heap.size]? = some (.cells #[.int .i64 a, .int .i64 b] 29) := by rw [← hW0]; exact heap_alloc_new w _
  have HMd := hide (made_yes lb mp W0 (m0.rd_top 3))
  have f1 : W0.cell? ⟨lb, 3, none⟩ = some (.map (some mp)) := m0.rd_top 3
  have f2 : W0.cell? ⟨w.heap.size, 0, none⟩ = some (.int .i64 a) := cell_at hbox
  have f3 : W0.cell? ⟨w.heap.size, 1, none⟩ = some (.int .i64 b) := cell_at hbox
  have f4 := m0.drew.lookP_no a b hk (find_none hL hid)
  have HB := hide b0.drew
  clear m0 hbox h hL b0
  go_enter Try.func14, Try.ntmps14
  go_wp2_with (first | rw [hW0] | (go_at_call 41; refine (unhide HMd).mono ?_; rintro e w' ⟨rfl, rfl⟩))
  go_region
  go_wp2
  go_ret2
  exact ⟨rfl, unhide HB⟩
set_option maxHeartbeats 2000000 in
theorem release_any {w : World} {S : Sto} {L1 L2 : List Am} {x : Am} (h : Mem B lb mq mp w S) (hB : ∀ j, w.heap.size ≤ j → B j) (hL : LI S (L1 ++ x :: L2) fun _ => 0) (a b : Int) (hk : I.OkK (a, b)) (hx : x.id = (a, b)) (hask : S.asked ≤ 1099511627776) :
    Calls Try.prog 14 #[PN lb, .agg #[.int .i64 a, .int .i64 b]] w fun e w' => ∃ v, e = .returned (.tuple #[v, .int .i64 0]) ∧ RelR B lb mq mp S L1 L2 w.heap.size v w' ∧ Upd B w.heap.size w w' := by
  obtain ⟨N, hN⟩ : ∃ n, w.heap.size = n := ⟨_, rfl⟩
  obtain ⟨W0, hW0⟩ : ∃ z, w.alloc (.cells #[.int .i64 a, .int .i64 b] 29) = z := ⟨_, rfl⟩
  have b0 : Below w.heap.size w W0 := hW0 ▸ below_box _
  have z0 : W0.heap.size = N + 1 := by rw [← hW0, ← hN]; simp
  obtain ⟨B2, hB2⟩ : ∃ B2, (fun j => B j ∧ j ≠ N) = B2 := ⟨_, rfl⟩
  have hle : ∀ j, B2 j → B j := fun j hj => by rw [← hB2] at hj; exact hj.1
  have hno : ¬ B2 N := fun hj => by rw [← hB2] at hj; exact hj.2 rfl
  have hBig : ∀ j, N + 1 ≤ j → B2 j := fun j hj => by rw [← hB2]; exact ⟨hB j (by omega), by omega⟩
  have m0 : Mem B2 lb mq mp W0 S := by
    refine (h.cut.below b0).mono fun j _ hj => ?_
    rw [← hB2]
    exact ⟨hj.1, by have := hj.2; omega⟩
  have hbox : W0.heap[N]? = some (.cells #[.int .i64 a, .int .i64 b] 29) := by rw [← hW0, ← hN]; exact heap_alloc_new w _
  have u0 : Upd B2 N w W0 := hN ▸ Upd.of b0
  have HMd := hide (made_yes lb mp W0 (m0.rd_top 3))
  have hP : S.P (a, b) = some x.sp := by
    rw [hL.a.P, List.find?_append, List.find?_cons]
    have hids := hL.a.ids
    rw [List.map_append, List.map_cons, List.nodup_append] at hids
    have n1 : L1.find? (fun c => decide (c.id = (a, b))) = none := List.find?_eq_none.2 fun c hc => by
      simp only [decide_eq_true_eq]
      exact fun e => hids.2.2 c.id (List.mem_map.2 ⟨c, hc, rfl⟩) x.id (by simp) (e.trans hx.symm)
    rw [n1, show decide (x.id = (a, b)) = true from by simp [hx]]
    rfl
  have f1 : W0.cell? ⟨lb, 3, none⟩ = some (.map (some mp)) := m0.rd_top 3
  have f2 : W0.cell? ⟨N, 0, none⟩ = some (.int .i64 a) := cell_at hbox
  have f3 : W0.cell? ⟨N, 1, none⟩ = some (.int .i64 b) := cell_at hbox
  have f4 := m0.drew.lookP_has a b hk hP
  obtain ⟨y1, hr1, hm1, hfar1, hsz1, e1, e2, e3⟩ := m0.drew.drew.p.del Try.under72 a b hk
  obtain ⟨P', hP'⟩ : ∃ P' : Ky → Option Nat, (fun y => if y = (a, b) then none else S.P y) = P' := ⟨_, rfl⟩
  have m1 : Mem B2 lb mq mp y1 { S with P := P' } := by
    refine m0.drew.drew.map_p hfar1 ?_
    have e : (fun k => (P' k).map PN) = I.offF (fun k => (S.P k).map PN) (a, b) := funext fun k => by
      rw [← hP']
      unfold I.offF
      by_cases e : k = (a, b)
      · simp [e]
      · simp [e]
    rw [e]; exact hm1
  have hs1 : N + 1 ≤ y1.heap.size := by rw [hsz1]; exact Nat.le_of_eq z0.symm
  have u1 : Upd B2 N w y1 := u0.trans ⟨e1, e2, e3, by rw [hsz1]; exact Nat.le_refl _, fun k hk hs => hfar1 k fun e => hs (e ▸ m0.bt.2.2.1)⟩
  obtain ⟨hself, hAI⟩ := hL.a.leave (P' := P') (fun y => by rw [← hP', hx])
  obtain ⟨nb1, nb2⟩ := hL.a.nbrs
  obtain ⟨ah, hah⟩ : ∃ z, lst none (L1.map aQ) = z := ⟨_, rfl⟩
  obtain ⟨be, hbe⟩ : ∃ z, nxt (L2.map aQ) none = z := ⟨_, rfl⟩
  rw [hah] at hself hAI nb1 nb2
  rw [hbe] at hself hAI nb2
  obtain ⟨S1, hS1⟩ : ∃ z, ({ unlA S ah be with P := P' } : Sto) = z := ⟨_, rfl⟩
  have hun : unlA { S with P := P' } ah be = S1 := by rw [← hS1]; cases ah <;> cases be <;> rfl
  rw [hS1] at hAI
  obtain ⟨r1, r2, r3, r4, r5, r6⟩ := unlA_rest S ah be
  have hRI : RI S S1 L1 L2 x x.cl [] := hL.release hAI (by rw [← hS1]; exact r1) (by rw [← hS1]; exact r3) (by rw [← hS1]; exact r4) (by rw [← hS1]; exact r2)
  have hS1sp : S1.sp x.sp = some ⟨x.ak, ah, be⟩ := by
    rw [← hS1]
    exact (unlA_p (fun e => (nb1 _ e).2 rfl) (fun e => (nb2 _ e).2.1 rfl)).trans hself
  obtain ⟨A, hA, hAi, hAn, hAc, hAl⟩ := hL.k.ak x (List.mem_append_right _ (by simp))
  have hS1ak : S1.ak x.ak = some A := by rw [← hS1]; exact (congrFun r2 x.ak).trans hA
  have HLv : Hid (Calls Try.prog 47 #[.pointer (some ⟨lb, 1, none⟩), PN x.sp] y1 fun e w2 => e = .returned (.tuple #[]) ∧ w2.cell? ⟨x.sp, 0, none⟩ = some (PN x.ak) ∧ w2.cell? ⟨x.ak, 3, none⟩ = some A.v ∧ Rl B2 lb mq mp w N S L1 L2 x A.v 0 (.slice none 0 0) 0 w2 ∧ N + 1 ≤ w2.heap.size) := by
    refine (leaveA_any m1 (p := x.sp) (c := ⟨x.ak, ah, be⟩) hself (fun z hz => nb1 z hz) (fun y hy => nb2 y hy)).mono fun e w2 ⟨q1, q2, q3⟩ => ?_
    rw [hun] at q2
    have := q3.size
    exact ⟨q1, q2.rd_sp hS1sp 0, q2.rd_ak hS1ak 3, ⟨⟨S1, [], q2, hRI, own_nil _ _ _ _, rfl, ⟨A, hS1ak, rfl, hAc⟩, by rw [← hS1]; exact r6⟩, u1.trans (q3.less (by omega))⟩, by omega⟩
  obtain ⟨n0, hn0⟩ : ∃ n, x.cl.length = n := ⟨_, rfl⟩
  have hrow := (h.row x.ak A hA).1
  rw [hAc, List.length_map, hn0] at hrow
  obtain ⟨ao, c0, hv⟩ := own_shape hrow
  have HAO : Hid (0 < n0 → ∃ g, ao = some ⟨g, 0, none⟩) := fun hpos => by
    rcases hrow.2 with ⟨_, c⟩ | ⟨g, _, _, e, _⟩
    · omega
    · rw [hv] at e
      simp only [Value.slice.injEq] at e
      exact ⟨g, e.1⟩
  rw [hv] at HLv
  have hclen : n0 ≤ 9223372036854775807 := by
    rcases hrow.2 with ⟨_, c⟩ | ⟨g, cap, _, _, _, _, c1, c2, _⟩
    · omega
    · unfold maxLen at c2; omega
  have HF := hide (And.intro hle (And.intro hno (And.intro hBig hL)))
  have HN0 := hide hn0
  rw [hN]
  have HR1 := hide hr1
  clear hle hno hBig hL m0 hbox u0 hP m1 hm1 hfar1 hsz1 e1 e2 e3 hs1 u1 hself hAI nb1 nb2 hun r1 r2 r3 r4 r5 r6 hRI hS1sp hA hAi hAn hAc hAl hS1ak hrow hv b0 h hB hn0 hah hbe hS1
  go_enter Try.func14, Try.ntmps14
  go_wp2_with (first | rw [hW0] | (go_at_call 41; refine (unhide HMd).mono ?_; rintro e w' ⟨rfl, rfl⟩))
  try rw [hN]
  go_region
  go_wp2
  try rw [hN]
  have hr2 := unhide HR1
  go_region
  clear hr2 f1 f2 f3 f4
  go_wp2_with (go_at_call 47; refine (unhide HLv).mono ?_; rintro e w2 ⟨rfl, g1, g2, hRl, hs2⟩)
  have HRl := hide (And.intro hRl hs2)
  clear hRl hs2 g1 g2
  go_loopw [7, 42] (fun rv cv wr => ∃ (t rn rc : Nat) (ra : Option Addr), t ≤ n0 ∧ cv = .int .i64 t ∧ rv = .slice ra rn rc ∧ Rl B2 lb mq mp w N S L1 L2 x (.slice ao n0 c0) t (.slice ra rn rc) rn wr ∧ N + 1 ≤ wr.heap.size) (fun _ cv _ => n0 - (intOf cv).toNat)
  case atStart => exact ⟨0, 0, 0, none, by omega, rfl, rfl, (unhide HRl).1, (unhide HRl).2⟩
  case round =>
    obtain ⟨t, rn, rc, ra, ht, rfl, rfl, hR, hsz⟩ := hrel
    by_cases hlt : t < n0
    · obtain ⟨hle, hno, hBig, hL⟩ := unhide HF
      obtain ⟨g, rfl⟩ := unhide HAO (by omega)
      obtain ⟨p, hcell, hcall⟩ := rel_round hR hL (fun j hj => hBig j (by omega)) (by omega) (by rw [unhide HN0]; exact hlt) hask
      have HC := hide hcall
      have hti : (0 : Int) ≤ t := by omega
      have htn : (t : Int) < n0 := by omega
      clear hR hcall hle hno hBig hL
      go_wp2_with (first | (go_at_call 48; refine (unhide HC).mono ?_; rintro e w3 ⟨a2, n2, c2, rfl, a3, n3, c3, y, hr3, hR3, hsy⟩; have HR3 := hide hr3; have HRl3 := hide hR3; clear hr3 hR3) | (at_builtin; refine wpList_append_run rfl _ _ 97 97 rfl rfl rfl (unhide HR3) ?_))
      go_roundw
      case rel => exact ⟨t + 1, n3, c3, a3, by omega, by go_num, rfl, unhide HRl3, by omega⟩
      case measure => simp [intOf]; omega
    · obtain rfl : t = n0 := by omega
      obtain ⟨hle, hno, hBig, hL⟩ := unhide HF
      have hrn := hR.len hask
      obtain ⟨⟨Sf, rd, hM, hRI, hO, hrd, _, hsa⟩, hU⟩ := hR
      rw [List.drop_of_length_le (by rw [unhide HN0]; exact Nat.le_refl _)] at hRI
      have HAO2 : Hid (0 < rn → ∃ g, ra = some ⟨g, 0, none⟩) := fun hpos => by
        rcases hO.2 with ⟨_, c⟩ | ⟨g, _, _, e, _⟩
        · omega
        · simp only [Value.slice.injEq] at e
          exact ⟨g, e.1⟩
      have HSo : Hid (Calls Try.prog 49 #[.slice ra rn rc, .func (.func 50) #[] #[]] wr fun e w5 => e = .returned (.tuple #[]) ∧ ∃ D : List Nat, D.length = rn ∧ (∀ b ∈ D, ∃ A, Sf.ak b = some A) ∧ Ro B2 lb mq mp w N Sf D (.slice ra rn rc) 0 (.slice none 0 0) w5 ∧ N + 1 ≤ w5.heap.size ∧ ∀ ov w', Ro B2 lb mq mp w N Sf D (.slice ra rn rc) rn ov w' → RelR B lb mq mp S L1 L2 N ov w' ∧ Upd B N w w') := by
        refine (sortA_any hM hO (fun b hb => by obtain ⟨A, hA, _⟩ := ((hRI.rz b).1 hb).1; exact ⟨A, hA⟩) (by omega)).mono fun e w5 ⟨q1, D, q2, q3, q4, q5, q6⟩ => ⟨q1, D, by rw [q3.length_eq, hrd], fun b hb => ?_, ⟨q5, by rw [q3.length_eq, hrd]; exact q2, own_nil _ _ _ _, hU.trans (Upd.of q6)⟩, by have := q6.size; omega, fun ov w' ho => ?_⟩
        · obtain ⟨A, hA, _⟩ := ((hRI.rz b).1 (q3.subset hb)).1
          exact ⟨A, hA⟩
        · obtain ⟨rdL, k1, k2, k3, k4⟩ := sort_am hRI q3 q4
          have hDl : D.length = rn := by rw [q3.length_eq, hrd]
          have hrl : rdL.length = rn := by rw [← hDl, ← k1, List.length_map]
          refine ⟨⟨Sf, rdL, ho.m.mono fun j _ hj => hle j hj, hRI.done hL, hsa, k2, k3, ?_⟩, ho.u.mono (Nat.le_refl _) fun k _ hk => hle k hk⟩
          have := ho.o
          rw [List.take_of_length_le (by omega), k4] at this
          rw [hrl]; exact this
      clear hM hRI hO hrd hsa hU hle hno hBig hL
      go_wp2_with (go_at_call 49; refine (unhide HSo).mono ?_; rintro e w5 ⟨rfl, D, hDl, hDA, hRo, hs5, hfin⟩; have HRo := hide hRo; have HD := hide (And.intro hDl hDA); have HFin := hide hfin; clear hRo hDl hDA hfin)
      go_loopw [10, 56] (fun ov cv wr => ∃ (t oc : Nat) (oa : Option Addr), t ≤ rn ∧ cv = .int .i64 t ∧ ov = .slice oa t oc ∧ Ro B2 lb mq mp w N Sf D (.slice ra rn rc) t (.slice oa t oc) wr ∧ N + 1 ≤ wr.heap.size) (fun _ cv _ => rn - (intOf cv).toNat)
      case atStart => exact ⟨0, 0, none, by omega, rfl, rfl, unhide HRo, hs5⟩
      case round =>
        obtain ⟨t2, oc, oa, ht2, rfl, rfl, hR2, hsz2⟩ := hrel
        by_cases hlt2 : t2 < rn
        · obtain ⟨hDl, hDA⟩ := unhide HD
          obtain ⟨g, rfl⟩ := unhide HAO2 (by omega)
          obtain ⟨bb, i1, i2, Z, a3, c3, y, v1, v2, v3, v4, v5, v6, v7⟩ := out_round hR2 hDA (by omega) (by omega) (by omega)
          have hsy : N + 1 ≤ y.heap.size := by omega
          have HR4 := hide v5
          have HR5 := hide v6
          have hti : (0 : Int) ≤ t2 := by omega
          have htn : (t2 : Int) < rn := by omega
          clear hR2 v5 v6
          go_wp2_with (first | rw [v4] | (at_builtin; refine wpList_append_run rfl _ _ 39 39 rfl rfl rfl (unhide HR4) ?_))
          go_roundw
          case rel => exact ⟨t2 + 1, c3, a3, by omega, by go_num, rfl, unhide HR5, hsy⟩
          case measure => simp [intOf]; omega
        · obtain rfl : t2 = rn := by omega
          have HE := hide (unhide HFin _ _ hR2)
          clear hR2
          go_wp2
          go_ret2
          exact ⟨_, rfl, (unhide HE).1, (unhide HE).2⟩
end
end Go.Proofs.Yteenbebpdibbcaa
