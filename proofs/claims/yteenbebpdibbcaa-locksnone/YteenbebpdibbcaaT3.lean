/- Request. -/
import Derived.Test.YteenbebpdibbcaaT2
namespace Go.Proofs.Yteenbebpdibbcaa
open Go.RowKit
set_option maxRecDepth 100000

section
variable {B : Nat → Prop} {lb mq mp : Nat}
def ReqR (B : Nat → Prop) (lb mq mp : Nat) (S : Sto) (L : List Am) (id : Ky) (l : List Lk) (r : Int) (w' : World) : Prop :=
  (¬ RiseL l ∧ r = 1 ∧ Mem B lb mq mp w' S) ∨ (RiseL l ∧ id ∈ L.map (·.id) ∧ r = 5 ∧ Mem B lb mq mp w' S) ∨
  (RiseL l ∧ id ∉ L.map (·.id) ∧ r = 0 ∧ ∃ S' x, Mem B lb mq mp w' S' ∧ LI S' (L ++ [x]) (fun _ => 0) ∧ x.id = id ∧ x.cl.map (·.2) = l ∧ S'.asked = S.asked + 1)
/-- What joins in Request, with no lock yet. -/
theorem asks_any {w : World} {N : Nat} {S : Sto} {L : List Am} {a b : Int} {n pa : Nat} (hL : LI S L fun _ => 0) (hk : I.OkK (a, b)) (hid : (a, b) ∉ L.map (·.id)) (hn : (n : Int) ≤ 2199023255552) (hno : S.ak pa = none) {x : World}
    (hM : Mem B lb mq mp x { S with ak := up S.ak pa ⟨(a, b), S.asked, .slice none 0 0, [], n⟩, asked := S.asked + 1 }) (hB : ∀ j, x.heap.size ≤ j → B j) (hN : N ≤ x.heap.size) (hu : Upd B N w x) (l : List Lk) :
    Calls Try.prog 43 #[.pointer (some ⟨lb, 1, none⟩), PN pa] x fun e w' => ∃ p, e = .returned (PN p) ∧ Upd B x.heap.size x w' ∧ w'.cell? ⟨lb, 3, none⟩ = some (.map (some mp)) ∧ ∃ y, (Instr.mapUpdate 72 (.map (some mp)) (.agg #[.int .i64 a, .int .i64 b]) (PN p)).run Try.prog w' = .ok () y ∧ Rq B lb mq mp w N L (a, b) l (S.asked + 1) pa n 0 y ∧ x.heap.size ≤ y.heap.size ∧ ∀ j, j ≠ mp → y.heap[j]? = w'.heap[j]? := by
  refine (joinA_any (S0 := S) (S := { S with ak := up S.ak pa ⟨(a, b), S.asked, .slice none 0 0, [], n⟩, asked := S.asked + 1 }) (mq := mq) hL.a rfl rfl rfl hM hB pa).mono fun e w' ⟨p, Sj, e1, hJ, hR, hM', hu'⟩ => ⟨p, e1, hu', hM'.rd_top 3, ?_⟩
  obtain ⟨y, hr, hm, hfar, hsz, h1, h2, h3⟩ := hM'.p.put Try.under72 a b hk (PN p)
  have hs := hu'.size
  refine ⟨y, hr, ⟨⟨{ Sj with P := fun y => if y = (a, b) then some p else Sj.P y }, ⟨p, pa, (a, b), S.asked, []⟩, hM'.map_p hfar ?_, ?_, rfl, rfl, by simp, ?_⟩, ?_⟩, by omega, hfar⟩
  · have e : (fun k => (((fun y => if y = (a, b) then some p else Sj.P y) : Ky → Option Nat) k).map PN) = I.putF (fun k => (Sj.P k).map PN) (a, b) (PN p) := funext fun k => by
      unfold I.putF
      by_cases e : k = (a, b)
      · simp [e]
      · simp [e]
    rw [e]; exact hm
  · have hA := hJ.a (x := ⟨p, pa, (a, b), S.asked, []⟩) (S2 := { Sj with P := fun y => if y = (a, b) then some p else Sj.P y }) rfl rfl hid (hL.ak_none hno) rfl rfl rfl rfl (by show Sj.asked = _; rw [hR.2.2.2.2.1]) (fun y => by show (if y = (a, b) then some p else Sj.P y) = _; rw [hR.2.2.2.1])
    have := hL.ask (S' := { Sj with P := fun y => if y = (a, b) then some p else Sj.P y }) (a := ⟨p, pa, (a, b), S.asked, []⟩) rfl hn hA hno (by show Sj.ak = _; rw [hR.2.2.2.2.2]) hR.1 hR.2.1 hR.2.2.1 hk
    exact this
  · show Sj.asked = _
    rw [hR.2.2.2.2.1]
  · exact (hu.trans (hu'.less hN)).trans ⟨h1, h2, h3, by omega, fun k hk hs => hfar k fun e => hs (e ▸ hM.bt.2.2.1)⟩
theorem Rq.size {w wr : World} {N pa n t : Nat} {L : List Am} {id : Ky} {l : List Lk} {num : Int} (h : Rq B lb mq mp w N L id l num pa n t wr) : pa < wr.heap.size := by
  obtain ⟨⟨S, x, hM, hL, hx, _⟩, _⟩ := h
  obtain ⟨A, hA, _⟩ := hL.k.ak x (by simp)
  rw [hx] at hA
  exact lt_of (hM.ak _ _ hA).1
theorem Rq.done {w wr : World} {N pa n : Nat} {S0 : Sto} {L : List Am} {id : Ky} {l : List Lk} (h : Rq B lb mq mp w N L id l (S0.asked + 1) pa n n wr) (hl : l.length = n) : ∃ S' x, Mem B lb mq mp wr S' ∧ LI S' (L ++ [x]) (fun _ => 0) ∧ x.id = id ∧ x.cl.map (·.2) = l ∧ S'.asked = S0.asked + 1 := by
  obtain ⟨⟨S, x, hM, hL, hx, hi, hc, hn⟩, _⟩ := h
  refine ⟨S, x, hM, ?_, hi, by rw [hc, ← hl, List.take_length], hn⟩
  have e : (fun b => if b = pa then n - n else 0) = fun _ : Nat => 0 := funext fun b => by simp
  rw [e] at hL
  exact hL
theorem find_none {S : Sto} {L : List Am} (h : AI S L) {id : Ky} (hid : id ∉ L.map (·.id)) : S.P id = none := by
  rw [h.P, List.find?_eq_none.2 fun b hb => by simp only [decide_eq_true_eq]; exact fun e => hid (List.mem_map.2 ⟨b, hb, e⟩)]
  rfl
theorem find_some {S : Sto} {L : List Am} (h : AI S L) {id : Ky} (hid : id ∈ L.map (·.id)) : ∃ p, S.P id = some p := by
  obtain ⟨b, hb, e⟩ := List.mem_map.1 hid
  rw [h.P]
  cases hf : L.find? (fun b => decide (b.id = id)) with
  | none =>
    have := List.find?_eq_none.1 hf b hb
    simp only [decide_eq_true_eq] at this
    exact absurd e this
  | some x => exact ⟨_, rfl⟩
set_option maxHeartbeats 2000000 in
theorem request_any {w : World} {S : Sto} {L : List Am} {v : Value} {l : List Lk} (h : Mem B lb mq mp w S) (hB : ∀ j, w.heap.size ≤ j → B j) (hL : LI S L fun _ => 0) (hs : ∀ z, Upd B w.heap.size w z → SeesL lC 3 z v l) (hl : l.length ≤ 1099511627776) (hok : ∀ x ∈ l, OkK x.1) (a b : Int) (hk : I.OkK (a, b)) (hask : S.asked ≤ 4398046511104) :
    Calls Try.prog 13 #[PN lb, .agg #[.int .i64 a, .int .i64 b], v] w fun e w' => ∃ r, e = .returned (.int .i64 r) ∧ Upd B w.heap.size w w' ∧ ReqR B lb mq mp S L (a, b) l r w' := by
  obtain ⟨N, hN⟩ : ∃ n, w.heap.size = n := ⟨_, rfl⟩
  obtain ⟨n, hn⟩ : ∃ n, l.length = n := ⟨_, rfl⟩
  obtain ⟨W0, hW0⟩ : ∃ z, w.alloc (.cells #[.int .i64 a, .int .i64 b] 29) = z := ⟨_, rfl⟩
  have b0 : Below w.heap.size w W0 := hW0 ▸ below_box _
  have z0 : W0.heap.size = N + 1 := by rw [← hW0, ← hN]; simp
  obtain ⟨B2, hB2⟩ : ∃ B2, (fun j => B j ∧ j ≠ N) = B2 := ⟨_, rfl⟩
  have hle : ∀ j, B2 j → B j := fun j hj => by rw [← hB2] at hj; exact hj.1
  have hno : ¬ B2 N := fun hj => by rw [← hB2] at hj; exact hj.2 rfl
  have hBig : ∀ j, N + 1 ≤ j → B2 j := fun j hj => by rw [← hB2]; exact ⟨hB j (by omega), by omega⟩
  have m0 : Mem B2 lb mq mp W0 S := by
    refine (h.cut.below b0).mono fun j _ hj => ?_
    rw [← hB2]
    exact ⟨hj.1, by have := hj.2; omega⟩
  have hbox : W0.heap[N]? = some (.cells #[.int .i64 a, .int .i64 b] 29) := by rw [← hW0, ← hN]; exact heap_alloc_new w _
  have u0 : Upd B2 N w W0 := hN ▸ Upd.of b0
  have HS : Hid (∀ z, Upd B2 N w z → SeesL lC 3 z v l) := fun z hz => hs z (hN ▸ hz.mono (Nat.le_refl _) fun k _ hk => hle k hk)
  obtain ⟨ao, cap, hv⟩ := (unhide HS W0 u0).shape
  rw [hn] at hv
  have HMd := hide (made_yes lb mp W0 (m0.rd_top 3))
  have HRs := hide (rise_any (unhide HS W0 u0) (by omega))
  have HN := hide hn
  have HB := hide (And.intro hle (And.intro hno hBig))
  have HOK := hide hok
  have hW := fun (w1 : World) (hb : Below W0.heap.size W0 w1) => (show Mem B2 lb mq mp w1 S ∧ Upd B2 N w w1 ∧ w1.heap[N]? = some (.cells #[.int .i64 a, .int .i64 b] 29) ∧ N + 1 ≤ w1.heap.size from ⟨m0.below hb, u0.trans ((Upd.of hb).less (by omega)), (hb.block N (by omega)).trans hbox, by have := hb.size; omega⟩)
  rw [hn] at hl
  rw [hN]
  subst hv
  by_cases hr : RiseL l
  · by_cases hid : (a, b) ∈ L.map (·.id)
    · obtain ⟨p, hp⟩ := find_some hL.a hid
      have HW : Hid (∀ w1, Below W0.heap.size W0 w1 → w1.cell? ⟨lb, 3, none⟩ = some (.map (some mp)) ∧ w1.cell? ⟨N, 0, none⟩ = some (.int .i64 a) ∧ w1.cell? ⟨N, 1, none⟩ = some (.int .i64 b) ∧ (Instr.lookup 72 (.map (some mp)) (.agg #[.int .i64 a, .int .i64 b]) false).run Try.prog w1.drew = .ok (PN p) w1.drew ∧ Upd B N w w1.drew ∧ ReqR B lb mq mp S L (a, b) l 5 w1.drew) := fun w1 hb => by
        obtain ⟨q1, q2, q3, q4⟩ := hW w1 hb
        exact ⟨q1.rd_top 3, cell_at q3, cell_at q3, q1.drew.lookP_has a b hk hp, (q2.mono (Nat.le_refl _) fun k _ hk => hle k hk).drew, .inr (.inl ⟨hr, hid, rfl, (q1.mono fun j _ hj => hle j hj).drew⟩)⟩
      have HRt : Hid (Calls Try.prog 42 #[.slice ao n cap] W0 fun e w' => e = .returned (.bool true) ∧ Below W0.heap.size W0 w') := (unhide HRs).mono fun e w' ⟨⟨bb, e1, e2⟩, e3⟩ => ⟨by rw [e1, e2.2 hr], e3⟩
      clear hW HRs m0 u0 hbox hs hok hle hno hBig h hL b0 hB
      go_enter Try.func13, Try.ntmps13
      go_wp2_with (first | rw [hW0] | (go_at_call 41; refine (unhide HMd).mono ?_; rintro e w' ⟨rfl, rfl⟩) | (go_at_call 42; refine (unhide HRt).mono ?_; rintro e w1 ⟨rfl, hb1⟩; obtain ⟨f1, f2, f3, f4, HU, HE⟩ := unhide HW w1 hb1; have HE' := hide (And.intro HU HE); clear HU HE))
      try rw [hN]
      go_region
      go_wp2
      go_ret
      exact ⟨5, rfl, (unhide HE').1, (unhide HE').2⟩
    · have hp := find_none hL.a hid
      have hna := hL.a.na
      obtain ⟨num, hnum⟩ : ∃ z, S.asked + 1 = z := ⟨_, rfl⟩
      have hwn : IntKind.i64.wrap (S.asked + 1) = num := by rw [wrap_i64 _ (by omega) (by omega)]; exact hnum
      have HW : Hid (∀ w1, Below W0.heap.size W0 w1 → (w1.cell? ⟨lb, 3, none⟩ = some (.map (some mp)) ∧ w1.cell? ⟨N, 0, none⟩ = some (.int .i64 a) ∧ w1.cell? ⟨N, 1, none⟩ = some (.int .i64 b) ∧ w1.cell? ⟨lb, 4, none⟩ = some (.int .i64 S.asked) ∧ (Instr.lookup 72 (.map (some mp)) (.agg #[.int .i64 a, .int .i64 b]) false).run Try.prog w1.drew = .ok nilP w1.drew) ∧
          ∃ pa W2, w1.heap.size = pa ∧ N + 1 ≤ pa ∧ w1.alloc (.cells #[.int .i64 a, .int .i64 b, .int .i64 S.asked, .slice none 0 0, .int .i64 n] 89) = W2 ∧ W2.cell? ⟨lb, 4, none⟩ = some (.int .i64 S.asked) ∧ W2.frozen? ⟨lb, 4, none⟩ = false ∧
          ∃ W3, W2.setCell ⟨lb, 4, none⟩ (.int .i64 num) = W3 ∧ N + 1 ≤ W3.heap.size ∧ (∀ x : World, x.heap = W3.heap → x.os = W3.os → x.tape = W3.tape → x.output = W3.output → (x.cell? ⟨lb, 3, none⟩ = some (.map (some mp)) ∧ x.cell? ⟨N, 0, none⟩ = some (.int .i64 a) ∧ x.cell? ⟨N, 1, none⟩ = some (.int .i64 b)) ∧
            Calls Try.prog 43 #[.pointer (some ⟨lb, 1, none⟩), PN pa] x fun e w' => ∃ p, e = .returned (PN p) ∧ (w'.cell? ⟨lb, 3, none⟩ = some (.map (some mp)) ∧ w'.cell? ⟨N, 0, none⟩ = some (.int .i64 a) ∧ w'.cell? ⟨N, 1, none⟩ = some (.int .i64 b)) ∧ ∃ y, (Instr.mapUpdate 72 (.map (some mp)) (.agg #[.int .i64 a, .int .i64 b]) (PN p)).run Try.prog w' = .ok () y ∧ Rq B2 lb mq mp w N L (a, b) l num pa n 0 y ∧ N + 1 ≤ y.heap.size ∧ (y.cell? ⟨lb, 3, none⟩ = some (.map (some mp)) ∧ y.cell? ⟨N, 0, none⟩ = some (.int .i64 a) ∧ y.cell? ⟨N, 1, none⟩ = some (.int .i64 b)))) := fun w1 hb => by
        obtain ⟨q1, q2, q3, q4⟩ := hW w1 hb
        refine ⟨⟨q1.rd_top 3, cell_at q3, cell_at q3, q1.rd_top 4, q1.drew.lookP_no a b hk hp⟩, _, _, rfl, q4, rfl, ?_⟩
        obtain ⟨m2, hpa⟩ := q1.new_ak (hBig _ q4) ⟨(a, b), S.asked, .slice none 0 0, [], n⟩ rfl rfl
        have m3 := m2.set_top (i := 4) (v := .int .i64 num) (fi := S.fi) (la := S.la) (asked := S.asked + 1) (by rw [← hnum]; rfl)
        have bb : Below w1.heap.size w1 (w1.alloc (.cells (akC ⟨(a, b), S.asked, .slice none 0 0, [], n⟩) 89)) := below_box _
        have u3 : Upd B2 N w ((w1.alloc (.cells (akC ⟨(a, b), S.asked, .slice none 0 0, [], n⟩) 89)).setCell ⟨lb, 4, none⟩ (.int .i64 num)) := (q2.trans ((Upd.of bb).less (by omega))).setCell (p := ⟨lb, 4, none⟩) (.inl q1.bt.1) _
        have hlbN : lb ≠ N := fun e => hno (e ▸ q1.bt.1)
        have box3 : ((w1.alloc (.cells (akC ⟨(a, b), S.asked, .slice none 0 0, [], n⟩) 89)).setCell ⟨lb, 4, none⟩ (.int .i64 num)).heap[N]? = some (.cells #[.int .i64 a, .int .i64 b] 29) := (setCell_far (Ne.symm hlbN)).trans ((bb.block N (by omega)).trans q3)
        refine ⟨m2.rd_top 4, m2.fr_top 4, _, rfl, by simp [World.setCell]; omega, fun x e1 e2 e3 e4 => ?_⟩
        obtain ⟨W3, hW3⟩ : ∃ z, (w1.alloc (.cells (akC ⟨(a, b), S.asked, .slice none 0 0, [], n⟩) 89)).setCell ⟨lb, 4, none⟩ (.int .i64 num) = z := ⟨_, rfl⟩
        rw [hW3] at m3 u3 box3
        have e1' : x.heap = W3.heap := e1.trans (congrArg World.heap hW3)
        have mx : Mem B2 lb mq mp x _ := m3.keep fun j _ _ => by rw [e1']
        have ux : Upd B2 N w x := u3.trans ⟨e2.trans (congrArg World.os hW3), e3.trans (congrArg World.tape hW3), e4.trans (congrArg World.output hW3), by rw [e1']; exact Nat.le_refl _, fun k _ _ => by rw [e1']⟩
        have boxx : x.heap[N]? = some (.cells #[.int .i64 a, .int .i64 b] 29) := by rw [e1']; exact box3
        have hsx : N + 1 ≤ x.heap.size := lt_of boxx
        refine ⟨⟨mx.rd_top 3, cell_at boxx, cell_at boxx⟩, ?_⟩
        refine (asks_any hL hk hid (n := n) (pa := w1.heap.size) (N := N) (w := w) (by omega) hpa mx (fun j hj => hBig j (by omega)) (by omega) ux l).mono fun e w' ⟨p, e1, hu', hlb, y, hr, hR, hy, hyf⟩ => ⟨p, e1, ⟨hlb, ?_, ?_⟩, y, hr, hnum ▸ hR, by omega, ?_, ?_, ?_⟩
        · exact cell_at ((hu'.block N (by omega) hno).trans boxx)
        · exact cell_at ((hu'.block N (by omega) hno).trans boxx)
        · obtain ⟨⟨S', _, hM', _⟩, _⟩ := hR
          exact hM'.rd_top 3
        · exact cell_at ((hyf N fun e => hno (e ▸ mx.bt.2.2.1)).trans ((hu'.block N (by omega) hno).trans boxx))
        · exact cell_at ((hyf N fun e => hno (e ▸ mx.bt.2.2.1)).trans ((hu'.block N (by omega) hno).trans boxx))
      have HRt : Hid (Calls Try.prog 42 #[.slice ao n cap] W0 fun e w' => e = .returned (.bool true) ∧ Below W0.heap.size W0 w') := (unhide HRs).mono fun e w' ⟨⟨bb, e1, e2⟩, e3⟩ => ⟨by rw [e1, e2.2 hr], e3⟩
      clear hW HRs m0 u0 hbox hs hok hle hno hBig h hL b0 hB
      go_enter Try.func13, Try.ntmps13
      go_wp2_with (first | rw [hW0] | (go_at_call 41; refine (unhide HMd).mono ?_; rintro e w' ⟨rfl, rfl⟩) | (go_at_call 42; refine (unhide HRt).mono ?_; rintro e w1 ⟨rfl, hb1⟩; obtain ⟨⟨f1, f2, f3, f4, f5⟩, pa, W2, hpa, hpaN, hW2, g1, g2, W3, hW3, hs3, HX0⟩ := unhide HW w1 hb1; have HX := hide HX0; clear HX0))
      try rw [hN]
      go_region
      go_wp2
      try rw [hN]
      go_region
      try rw [hpa]
      try rw [hW2]
      go_wp2
      try rw [hW3]
      refine wp_region_held_drew (S := fun x => x.cell? ⟨lb, 3, none⟩ = some (.map (some mp)) ∧ x.cell? ⟨N, 0, none⟩ = some (.int .i64 a) ∧ x.cell? ⟨N, 1, none⟩ = some (.int .i64 b)) (by kernel_rfl) (unhide HX W3.drew.drew.drew rfl rfl rfl rfl).1 (fun hHeld => ?_)
      refine wpAnyH_take (i := 0) (v := ?v1x0) rfl (by kernel_rfl) (by kernel_rfl) (by kernel_rfl) (fun _ _ _ h => h) (Or.inl ⟨by rfl, ?hy1x0⟩) (by assumption) ?rest1x0
      case hy1x0 => intro w hSw; obtain ⟨s1, s2, s3⟩ := hSw; go_simp <;> with_reducible rfl
      simp only [Act.put, List.getElem_toArray, List.getElem_cons_zero, List.setIfInBounds_toArray, List.set_cons_zero, List.set_cons_succ]
      refine wpAnyH_take (i := 1) (v := ?v2x1) rfl (by kernel_rfl) (by kernel_rfl) (by kernel_rfl) (fun _ _ _ h => h) (Or.inl ⟨by rfl, ?hy2x1⟩) (by assumption) ?rest2x1
      case hy2x1 => intro w hSw; obtain ⟨s1, s2, s3⟩ := hSw; go_simp <;> with_reducible rfl
      simp only [Act.put, List.getElem_toArray, List.getElem_cons_zero, List.getElem_cons_succ, List.setIfInBounds_toArray, List.set_cons_zero, List.set_cons_succ]
      refine wpAnyH_take (i := 2) (v := ?v3x2) rfl (by kernel_rfl) (by kernel_rfl) (by kernel_rfl) (fun _ _ _ h => h) (Or.inl ⟨by rfl, ?hy3x2⟩) (by assumption) ?rest3x2
      case hy3x2 => intro w hSw; obtain ⟨s1, s2, s3⟩ := hSw; go_simp <;> with_reducible rfl
      simp only [Act.put, List.getElem_toArray, List.getElem_cons_zero, List.getElem_cons_succ, List.setIfInBounds_toArray, List.set_cons_zero, List.set_cons_succ]
      refine wpAnyH_take (i := 3) (v := ?v4x3) rfl (by kernel_rfl) (by kernel_rfl) (by kernel_rfl) (fun _ _ _ h => h) (Or.inl ⟨by rfl, ?hy4x3⟩) (by assumption) ?rest4x3
      case hy4x3 => intro w hSw; obtain ⟨s1, s2, s3⟩ := hSw; go_simp <;> with_reducible rfl
      simp only [Act.put, List.getElem_toArray, List.getElem_cons_zero, List.getElem_cons_succ, List.setIfInBounds_toArray, List.set_cons_zero, List.set_cons_succ]
      refine wpAnyH_take (i := 4) (v := ?v5x4) rfl (by kernel_rfl) (by kernel_rfl) (by kernel_rfl) (fun _ _ _ h => h) (Or.inl ⟨by rfl, ?hy5x4⟩) (by assumption) ?rest5x4
      case hy5x4 => intro w hSw; obtain ⟨s1, s2, s3⟩ := hSw; go_simp <;> with_reducible rfl
      simp only [Act.put, List.getElem_toArray, List.getElem_cons_zero, List.getElem_cons_succ, List.setIfInBounds_toArray, List.set_cons_zero, List.set_cons_succ]
      refine wpAnyH_take (i := 5) (v := ?v6x5) rfl (by kernel_rfl) (by kernel_rfl) (by kernel_rfl) (fun _ _ _ h => h) (Or.inl ⟨by rfl, ?hy6x5⟩) (by assumption) ?rest6x5
      case hy6x5 => intro w hSw; obtain ⟨s1, s2, s3⟩ := hSw; go_simp <;> with_reducible rfl
      simp only [Act.put, List.getElem_toArray, List.getElem_cons_zero, List.getElem_cons_succ, List.setIfInBounds_toArray, List.set_cons_zero, List.set_cons_succ]
      refine wpAnyH_take (i := 6) (v := ?v7x6) rfl (by kernel_rfl) (by kernel_rfl) (by kernel_rfl) (fun _ _ _ h => h) (Or.inl ⟨by rfl, ?hy7x6⟩) (by assumption) ?rest7x6
      case hy7x6 => intro w hSw; obtain ⟨s1, s2, s3⟩ := hSw; go_simp <;> with_reducible rfl
      simp only [Act.put, List.getElem_toArray, List.getElem_cons_zero, List.getElem_cons_succ, List.setIfInBounds_toArray, List.set_cons_zero, List.set_cons_succ]
      refine wpAnyH_take (i := 7) (v := ?v8x7) rfl (by kernel_rfl) (by kernel_rfl) (by kernel_rfl) (fun _ _ _ h => h) (Or.inl ⟨by rfl, ?hy8x7⟩) (by assumption) ?rest8x7
      case hy8x7 => intro w hSw; obtain ⟨s1, s2, s3⟩ := hSw; go_simp <;> with_reducible rfl
      simp only [Act.put, List.getElem_toArray, List.getElem_cons_zero, List.getElem_cons_succ, List.setIfInBounds_toArray, List.set_cons_zero, List.set_cons_succ]
      refine wpAnyH_take (i := 8) (v := ?v9x8) rfl (by kernel_rfl) (by kernel_rfl) (by kernel_rfl) (fun _ _ _ h => h) (Or.inl ⟨by rfl, ?hy9x8⟩) (by assumption) ?rest9x8
      case hy9x8 => intro w hSw; obtain ⟨s1, s2, s3⟩ := hSw; go_simp <;> with_reducible rfl
      simp only [Act.put, List.getElem_toArray, List.getElem_cons_zero, List.getElem_cons_succ, List.setIfInBounds_toArray, List.set_cons_zero, List.set_cons_succ]
      refine wpAnyH_ready (rs := [9]) (by kernel_rfl) (by simp) ?_
      refine AllReadyH.cons rfl (fun K hK => ?_) AllReadyH.nil
      go_simp
      refine ((unhide HX W3.drew.drew.drew rfl rfl rfl rfl).2).mono ?_
      rintro e w5 ⟨p, rfl, hw5, y, hr5, hRq, hyN, hy5⟩
      refine hK _ _ hw5 ?_
      clear hK hHeld
      intro hHeld
      refine wpAnyH_ready (rs := [10]) (by kernel_rfl) (by simp) ?_
      refine AllReadyH.cons rfl (fun K hK => ?_) AllReadyH.nil
      go_simp
      refine hK _ _ hy5 ?_
      clear hK hHeld
      intro hHeld
      refine wpAnyH_done (by kernel_rfl) ?_ _
      clear f1 f2 f3 f4 f5 g1 g2 hs3 hw5 hr5
      have HRq := hide hRq
      clear hRq hyN hy5
      go_wp2
      go_loopw [55] (fun c wr => ∃ t : Nat, t ≤ n ∧ c = .int .i64 t ∧ Rq B2 lb mq mp w N L (a, b) l num pa n t wr) (fun c _ => n - (intOf c).toNat)
      case atStart => exact ⟨0, by omega, rfl, unhide HRq⟩
      case round =>
        obtain ⟨t, ht, rfl, hR⟩ := hrel
        by_cases hlt : t < n
        · have hnl := unhide HN
          have hsz := hR.size
          obtain ⟨gb, ob, hao, g1, g2, g3⟩ := lock_cells (unhide HS wr hR.u) rfl (t := t) (by omega)
          subst hao
          obtain ⟨⟨⟨ka, kb⟩, d⟩, hx⟩ : ∃ k, l.getD t default = k := ⟨_, rfl⟩
          rw [hx] at g1 g2 g3
          replace g1 : wr.cell? ⟨gb, ob + t * 3, none⟩ = some (.int .i32 ka) := g1
          have htl : t < l.length := by omega
          have hxt : l[t]? = some ((ka, kb), d) := by rw [← hx]; simp [List.getD, htl]
          have hokx : OkK (ka, kb) := unhide HOK _ (List.mem_of_getElem? hxt)
          obtain ⟨W1, hW1⟩ : ∃ z, wr.alloc (.cells #[.int .i32 ka, .int .i64 kb, .bool d] 66) = z := ⟨_, rfl⟩
          obtain ⟨n1, hn1⟩ : ∃ z, wr.heap.size = z := ⟨_, rfl⟩
          have HRd := hide (round_any hR (fun j hj => (unhide HB).2.2 j (by omega)) (by omega) hnl hr hlt hxt hokx (by omega) hn1 hW1)
          have hbx : W1.heap[n1]? = some (.cells #[.int .i32 ka, .int .i64 kb, .bool d] 66) := by rw [← hW1, ← hn1]; exact heap_alloc_new wr _
          have HW1 := hide hW1
          have HBX := hide hbx
          have hti : (0 : Int) ≤ t := by omega
          have htn : (t : Int) < n := by omega
          clear hR hx hxt hokx hsz htl hnl hbx hW1
          go_wp2_with (first | rw [hn1] | rw [unhide HW1])
          try rw [hn1]
          try rw [unhide HW1]
          refine wp_region_held_drew (S := fun x => x.heap[n1]? = some (.cells #[.int .i32 ka, .int .i64 kb, .bool d] 66)) (by kernel_rfl) (unhide HBX) (fun hHeld => ?_)
          refine wpAnyH_take (i := 0) (v := ?v10x0) rfl (by kernel_rfl) (by kernel_rfl) (by kernel_rfl) (fun _ _ _ h => h) (Or.inl ⟨by rfl, ?hy10x0⟩) (by assumption) ?rest10x0
          case hy10x0 => intro w hSw; go_simp <;> with_reducible rfl
          simp only [Act.put, List.getElem_toArray, List.getElem_cons_zero, List.setIfInBounds_toArray, List.set_cons_zero, List.set_cons_succ]
          refine wpAnyH_take (i := 1) (v := ?v11x1) rfl (by kernel_rfl) (by kernel_rfl) (by kernel_rfl) (fun _ _ _ h => h) (Or.inl ⟨by rfl, ?hy11x1⟩) (by assumption) ?rest11x1
          case hy11x1 => intro w hSw; go_simp <;> with_reducible rfl
          simp only [Act.put, List.getElem_toArray, List.getElem_cons_zero, List.getElem_cons_succ, List.setIfInBounds_toArray, List.set_cons_zero, List.set_cons_succ]
          refine wpAnyH_take (i := 2) (v := (.agg #[.int .i32 ka, .int .i64 kb])) rfl (by kernel_rfl) (by kernel_rfl) (by kernel_rfl) (fun _ _ _ h => h) (Or.inl ⟨by rfl, ?hy12x2⟩) (by assumption) ?rest12x2
          case hy12x2 => intro w hSw; have s0 := cell_at (o := 0) hSw; have s1 := cell_at (o := 1) hSw; go_simp <;> with_reducible rfl
          simp only [Act.put, List.getElem_toArray, List.getElem_cons_zero, List.getElem_cons_succ, List.setIfInBounds_toArray, List.set_cons_zero, List.set_cons_succ]
          refine wpAnyH_take (i := 4) (v := ?v13x4) rfl (by kernel_rfl) (by kernel_rfl) (by kernel_rfl) (fun _ _ _ h => h) (Or.inl ⟨by rfl, ?hy13x4⟩) (by assumption) ?rest13x4
          case hy13x4 => intro w hSw; go_simp <;> with_reducible rfl
          simp only [Act.put, List.getElem_toArray, List.getElem_cons_zero, List.getElem_cons_succ, List.setIfInBounds_toArray, List.set_cons_zero, List.set_cons_succ]
          refine wpAnyH_take (i := 5) (v := (.agg #[.int .i32 ka, .int .i64 kb, .bool d])) rfl (by kernel_rfl) (by kernel_rfl) (by kernel_rfl) (fun _ _ _ h => h) (Or.inl ⟨by rfl, ?hy14x5⟩) (by assumption) ?rest14x5
          case hy14x5 => intro w hSw; have s0 := cell_at (o := 0) hSw; have s1 := cell_at (o := 1) hSw; have s2 := cell_at (o := 2) hSw; go_simp <;> with_reducible rfl
          simp only [Act.put, List.getElem_toArray, List.getElem_cons_zero, List.getElem_cons_succ, List.setIfInBounds_toArray, List.set_cons_zero, List.set_cons_succ]
          refine wpAnyH_take (i := 6) (v := ?v15x6) rfl (by kernel_rfl) (by kernel_rfl) (by kernel_rfl) (fun _ _ _ h => h) (Or.inl ⟨by rfl, ?hy15x6⟩) (by assumption) ?rest15x6
          case hy15x6 => intro w hSw; go_simp <;> with_reducible rfl
          simp only [Act.put, List.getElem_toArray, List.getElem_cons_zero, List.getElem_cons_succ, List.setIfInBounds_toArray, List.set_cons_zero, List.set_cons_succ]
          refine wpAnyH_ready (rs := [3]) (by kernel_rfl) (by simp) ?_
          refine AllReadyH.cons rfl (fun K hK => ?_) AllReadyH.nil
          go_simp
          refine (unhide HRd).mono ?_
          rintro e w2 ⟨q, rfl, hb2, HC2⟩
          refine hK _ _ hb2 ?_
          clear hK hHeld
          intro hHeld
          refine wpAnyH_ready (rs := [7]) (by kernel_rfl) (by simp) ?_
          refine AllReadyH.cons rfl (fun K hK => ?_) AllReadyH.nil
          go_simp
          refine (HC2).mono ?_
          rintro e w3 ⟨p, rfl, hb3, a0, c0, m0, a1, m1, c1, y, Z, r1, r2, r3, r4, r5, HC4⟩
          refine hK _ _ hb3 ?_
          clear hK hHeld
          intro hHeld
          refine wpAnyH_take (i := 8) (v := ?v16x8) rfl (by kernel_rfl) (by kernel_rfl) (by kernel_rfl) (fun _ _ _ h => h) (Or.inl ⟨by rfl, ?hy16x8⟩) (by assumption) ?rest16x8
          case hy16x8 => intro w hSw; go_simp <;> with_reducible rfl
          simp only [Act.put, List.getElem_toArray, List.getElem_cons_zero, List.getElem_cons_succ, List.setIfInBounds_toArray, List.set_cons_zero, List.set_cons_succ]
          refine wpAnyH_done (by kernel_rfl) ?_ _
          have HR3 := hide r3
          have HC5 := hide HC4
          clear HC4 r3 HC2 hb2 hb3
          go_wp2_with (first | rw [r2] | (at_builtin; refine wpList_append_run rfl _ _ 87 87 rfl rfl rfl (unhide HR3) ?_) | (go_at_call 46; refine (unhide HC5).mono ?_; rintro e w' ⟨rv, rfl, hR'⟩))
          go_roundw
          case rel => exact ⟨t + 1, by omega, by go_num, hR'⟩
          case measure => simp [intOf]; omega
        · obtain rfl : t = n := by omega
          have hnl := unhide HN
          have hU : Upd B N w wr := hR.u.mono (Nat.le_refl _) fun k _ hk => (unhide HB).1 k hk
          obtain ⟨S', x, q1, q2, q3⟩ := (hnum ▸ hR).done hnl
          have HF := hide (show Upd B N w wr ∧ ReqR B lb mq mp S L (a, b) l 0 wr from ⟨hU, .inr (.inr ⟨hr, hid, rfl, S', x, q1.mono fun j _ hj => (unhide HB).1 j hj, q2, q3⟩)⟩)
          clear hR hU q1 q2 q3 hnl
          go_wp2
          go_ret
          exact ⟨0, rfl, (unhide HF).1, (unhide HF).2⟩
  · have HRt : Hid (Calls Try.prog 42 #[.slice ao n cap] W0 fun e w' => e = .returned (.bool false) ∧ Below W0.heap.size W0 w') := (unhide HRs).mono fun e w' ⟨⟨bb, e1, e2⟩, e3⟩ => ⟨by rw [e1]; cases bb; rfl; exact absurd (e2.1 rfl) hr, e3⟩
    have HW : Hid (∀ w1, Below W0.heap.size W0 w1 → Upd B N w w1 ∧ ReqR B lb mq mp S L (a, b) l 1 w1) := fun w1 hb => by
      obtain ⟨q1, q2, q3, q4⟩ := hW w1 hb
      exact ⟨q2.mono (Nat.le_refl _) fun k _ hk => hle k hk, .inl ⟨hr, rfl, q1.mono fun j _ hj => hle j hj⟩⟩
    clear hW HRs m0 u0 hbox hs hok hle hno hBig h hL b0 hB
    go_enter Try.func13, Try.ntmps13
    go_wp2_with (first | rw [hW0] | (go_at_call 41; refine (unhide HMd).mono ?_; rintro e w' ⟨rfl, rfl⟩) | (go_at_call 42; refine (unhide HRt).mono ?_; rintro e w1 ⟨rfl, hb1⟩))
    go_ret
    exact ⟨1, rfl, (unhide HW w1 hb1).1, (unhide HW w1 hb1).2⟩
end
end Go.Proofs.Yteenbebpdibbcaa
