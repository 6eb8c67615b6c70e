/- Who has the lock, who is ready: by those that asked ahead. -/
import Derived.Test.YteenbebpdibbcaaT7
namespace Go.Proofs.Yteenbebpdibbcaa
open Go.RowKit
set_option maxRecDepth 100000

theorem lpr_append : ∀ (pr : Option (Bool × Bool)) (a b : List Bool), lpr pr (a ++ b) = lpr (lpr pr a) b
  | _, [], _ => rfl
  | pr, e :: r, b => lpr_append (some (e, mayP pr e)) r b
theorem may_all (A : List Bool) (e : Bool) : mayP (lpr none A) e = A.all fun x => !x && !e := by
  induction hn : A.length generalizing A e with
  | zero =>
    obtain rfl : A = [] := List.length_eq_zero_iff.1 hn
    rfl
  | succ n ih =>
    rcases List.eq_nil_or_concat A with rfl | ⟨A', x, rfl⟩
    · simp at hn
    · rw [List.concat_eq_append] at hn ⊢
      rw [lpr_append, List.all_append]
      have h1 := ih A' x (by simp at hn; exact hn)
      have h2 := ih A' e (by simp at hn; exact hn)
      show mayP (some (x, mayP (lpr none A') x)) e = _
      rw [h1]
      show (!e && !x && A'.all fun y => !y && !x) = ((A'.all fun y => !y && !e) && ([x].all fun y => !y && !e))
      cases e <;> cases x <;> simp
theorem qF_claim {k : Ky} {a : Am} (hkd : (a.cl.map (·.2.1)).Nodup) {p : Nat} {e : Bool} (hc : (p, (k, e)) ∈ a.cl) : qF k a = [⟨p, a.ak, e⟩] := by
  have h1 := qF_one hkd k
  have h2 : (⟨p, a.ak, e⟩ : Qe) ∈ qF k a := qF_mem.2 ⟨_, hc, rfl, rfl⟩
  match hq : qF k a, h1, h2 with
  | [], _, h2 => simp at h2
  | [y], _, h2 => rw [List.mem_singleton] at h2; rw [h2]
  | _ :: _ :: _, h1, _ => simp at h1
theorem held_iff {S : Sto} {L1 L2 : List Am} {a : Am} {pend : Nat → Nat} (h : LI S (L1 ++ a :: L2) pend) {p : Nat} {k : Ky} {e : Bool} (hc : (p, (k, e)) ∈ a.cl) : hdS S p = true ↔ ∀ a' ∈ L1, ∀ c' ∈ a'.cl, c'.2.1 = k → c'.2.2 = false ∧ e = false := by
  have hch := h.q.chn k
  rw [Qs_mid, qF_claim (h.kd a (List.mem_append_right _ (by simp))) hc] at hch
  rw [List.map_append, hs_append, Chn.append (by rw [hs_len, List.length_map])] at hch
  have h1 : S.cs p = some ⟨a.ak, k, e, mayP (lpr none ((Qs L1 k).map Qe.e)) e, _, _⟩ := hch.2.1
  have h2 : hdS S p = mayP (lpr none ((Qs L1 k).map Qe.e)) e := by unfold hdS; rw [h1]
  rw [h2, may_all, List.all_eq_true]
  refine ⟨fun hh a' ha' c' hc' hk => ?_, fun hh x hx => ?_⟩
  · have := hh c'.2.2 (List.mem_map.2 ⟨⟨c'.1, a'.ak, c'.2.2⟩, Qs_mem.2 ⟨a', ha', c', hc', hk, rfl⟩, rfl⟩)
    simpa using this
  · obtain ⟨y, hy, rfl⟩ := List.mem_map.1 hx
    obtain ⟨a', ha', c', hc', hk, rfl⟩ := Qs_mem.1 hy
    have := hh a' ha' c' hc' hk
    simp [this.1, this.2]
theorem cnt_zero {S : Sto} {cl : List (Nat × Lk)} : cnt S cl = 0 ↔ ∀ c ∈ cl, hdS S c.1 = true := by
  unfold cnt
  rw [List.length_eq_zero_iff, List.filter_eq_nil_iff]
  simp
/-- A list of wishes is ready behind those of M. -/
def Rdy (M : List (List Lk)) (want : List Lk) : Prop := ∀ x ∈ want, ∀ m ∈ M, ∀ y ∈ m, y.1 = x.1 → y.2 = false ∧ x.2 = false
def wantsL (L : List Am) : List (List Lk) := L.map fun a => a.cl.map (·.2)
theorem zr_iff {S : Sto} {L1 L2 : List Am} {a : Am} (h : LI S (L1 ++ a :: L2) fun _ => 0) : Zr S a.ak ↔ Rdy (wantsL L1) (a.cl.map (·.2)) := by
  obtain ⟨A, hA, _, _, _, hl⟩ := h.k.ak a (List.mem_append_right _ (by simp))
  have h1 : Zr S a.ak ↔ cnt S a.cl = 0 := by
    refine ⟨fun ⟨A', e1, e2⟩ => ?_, fun e => ⟨A, hA, by rw [hl, e]; rfl⟩⟩
    rw [hA] at e1
    obtain rfl := Option.some.inj e1
    omega
  rw [h1, cnt_zero]
  refine ⟨fun hh x hx m hm y hy e => ?_, fun hh c hc => ?_⟩
  · obtain ⟨c, hc, rfl⟩ := List.mem_map.1 hx
    obtain ⟨a', ha', rfl⟩ := List.mem_map.1 hm
    obtain ⟨c', hc', rfl⟩ := List.mem_map.1 hy
    exact (held_iff h (p := c.1) (k := c.2.1) (e := c.2.2) hc).1 (hh c hc) a' ha' c' hc' e
  · exact (held_iff h (p := c.1) (k := c.2.1) (e := c.2.2) hc).2 fun a' ha' c' hc' e => hh c.2 (List.mem_map.2 ⟨c, hc, rfl⟩) _ (List.mem_map.2 ⟨a', ha', rfl⟩) c'.2 (List.mem_map.2 ⟨c', hc', rfl⟩) e
theorem fnd_of {S : Sto} {L1 L2 : List Am} {a : Am} (h : AI S (L1 ++ a :: L2)) : fnd S a.id = some a.ak ∧ ∃ s, S.P a.id = some a.sp ∧ S.sp a.sp = some s := by
  obtain ⟨h1, _⟩ := h.leave (P' := fun x => if x = a.id then none else S.P x) (fun _ => rfl)
  have hP : S.P a.id = some a.sp := by
    rw [h.P, List.find?_append, List.find?_cons]
    have hids := h.ids
    rw [List.map_append, List.map_cons, List.nodup_append] at hids
    have n1 : L1.find? (fun c => decide (c.id = a.id)) = none := List.find?_eq_none.2 fun c hc => by
      simp only [decide_eq_true_eq]
      exact fun e => hids.2.2 c.id (List.mem_map.2 ⟨c, hc, rfl⟩) a.id (by simp) e
    rw [n1, show decide (a.id = a.id) = true from by simp]
    rfl
  refine ⟨?_, _, hP, h1⟩
  unfold fnd
  rw [hP]
  show Option.map Sp.of (S.sp a.sp) = _
  rw [h1]; rfl
theorem rdy_any {S : Sto} {L1 L2 : List Am} {a : Am} (h : LI S (L1 ++ a :: L2) fun _ => 0) : (rdyS S a.id = true ↔ Rdy (wantsL L1) (a.cl.map (·.2))) ∧ (∀ p, S.P a.id = some p → ∃ s, S.sp p = some s) ∧ ∀ p, fnd S a.id = some p → ∃ A, S.ak p = some A := by
  obtain ⟨h1, s, h2, h3⟩ := fnd_of h.a
  obtain ⟨A, hA, _⟩ := h.k.ak a (List.mem_append_right _ (by simp))
  refine ⟨?_, fun p hp => ?_, fun p hp => ?_⟩
  · rw [← zr_iff h]
    unfold rdyS
    rw [h1]
    show (match S.ak a.ak with | none => false | some a => decide (a.lacks = 0)) = true ↔ _
    rw [hA]
    exact ⟨fun e => ⟨A, hA, by simpa using e⟩, fun ⟨A', e1, e2⟩ => by rw [hA] at e1; obtain rfl := Option.some.inj e1; simpa using e2⟩
  · rw [h2] at hp
    obtain rfl := Option.some.inj hp
    exact ⟨s, h3⟩
  · rw [h1] at hp
    obtain rfl := Option.some.inj hp
    exact ⟨A, hA⟩
theorem li_zero : LI S0 [] fun _ => 0 := by
  refine ⟨⟨?_, fun _ => ⟨rfl, rfl⟩, fun _ => rfl, by simp, by simp, List.Pairwise.nil, fun b hb => (by simp at hb), Int.le_refl _⟩, ?_, ⟨fun a ha => (by simp at ha), fun a ha => (by simp at ha), fun a ha => (by simp at ha), fun a ha => (by simp at ha), fun b A h => (by cases h)⟩, fun p c h => (by cases h), fun p c x h => (by cases h), fun a ha => (by simp at ha), fun a ha => (by simp at ha)⟩
  · refine QJ.qi (k0 := (0, 0)) ⟨fun k hk => ?_, ?_, fun k => ?_, fun k k' q e1 e2 => ?_, fun k => ?_⟩
    · unfold aqs; rw [if_neg hk]; exact trivial
    · rw [aqs_zero]; exact trivial
    · refine .inl ⟨?_, ?_⟩
      · unfold aqs; split <;> rfl
      · exact if_neg fun c => c.2 rfl
    · have : (if k = (0, 0) ∧ ([] : List Am) ≠ [] then some 0 else none) = some q := e1
      rw [if_neg fun c => c.2 rfl] at this
      cases this
    · unfold aqs; split <;> simp
  · intro k0
    exact ⟨fun k _ => trivial, trivial, fun k => .inl ⟨rfl, rfl⟩, fun k k' q e => (by cases e), fun k => (by simp [Qs])⟩
/-- Locks in memory that keep off the blocks of P. -/
def Lq (P : Nat → Prop) (lb : Nat) (L : List Am) (k : Int) (w : World) : Prop := ∃ B mq mp S, Mem B lb mq mp w S ∧ LI S L (fun _ => 0) ∧ S.asked = k ∧ ∀ j, B j → ¬ P j ∧ j < w.heap.size
theorem Lq.below {P : Nat → Prop} {lb : Nat} {L : List Am} {k : Int} {w w' : World} (h : Lq P lb L k w) (hb : Below w.heap.size w w') : Lq P lb L k w' := by
  obtain ⟨B, mq, mp, S, h1, h2, h3, h4⟩ := h
  exact ⟨B, mq, mp, S, h1.below hb, h2, h3, fun j hj => ⟨(h4 j hj).1, Nat.lt_of_lt_of_le (h4 j hj).2 hb.size⟩⟩
theorem new_lq (w : World) : Calls Try.prog 8 #[] w fun e w' => ∃ lb, e = .returned (PN lb) ∧ Lq (fun j => j < w.heap.size) lb [] 0 w' ∧ Below w.heap.size w w' :=
  (new_any w).mono fun e w' ⟨lb, mq, mp, h1, h2, h3⟩ => ⟨lb, h1, ⟨_, mq, mp, S0, h2.cut, li_zero, rfl, fun j hj => ⟨by have := hj.1; omega, hj.2⟩⟩, h3⟩
/-- Request, where locks stood in w0, and arguments were laid since. -/
theorem request_lq {P : Nat → Prop} {lb : Nat} {L : List Am} {k : Int} {w0 w : World} (h : Lq P lb L k w0) (hb : Below w0.heap.size w0 w) (hPw : ∀ j, P j → j < w0.heap.size) {v : Value} {l : List Lk} (hs : ∀ z, (∀ j, (P j ∨ w0.heap.size ≤ j) → j < w.heap.size → z.heap[j]? = w.heap[j]?) → SeesL lC 3 z v l) (hl : l.length ≤ 1099511627776) (hok : ∀ x ∈ l, OkK x.1) (a b : Int) (hk : I.OkK (a, b)) (hask : k ≤ 4398046511104) (hr : RiseL l) (hid : (a, b) ∉ L.map (·.id)) :
    Calls Try.prog 13 #[PN lb, .agg #[.int .i64 a, .int .i64 b], v] w fun e w' => e = .returned (.int .i64 0) ∧ (∃ x, Lq P lb (L ++ [x]) (k + 1) w' ∧ x.id = (a, b) ∧ x.cl.map (·.2) = l) ∧ (∀ j, P j → w'.heap[j]? = w.heap[j]?) ∧ w.heap.size ≤ w'.heap.size ∧ (∀ j, j < w.heap.size → (P j ∨ w0.heap.size ≤ j) → w'.heap[j]? = w.heap[j]?) ∧ w'.os = w.os ∧ w'.tape = w.tape ∧ w'.output = w.output := by
  obtain ⟨B, mq, mp, S, h1, h2, h3, h4⟩ := h
  obtain ⟨B', hB'⟩ : ∃ B', (fun j => B j ∨ w.heap.size ≤ j) = B' := ⟨_, rfl⟩
  have hm : Mem B' lb mq mp w S := (h1.below hb).mono fun j _ hj => by rw [← hB']; exact .inl hj
  have hfar : ∀ j, j < w.heap.size → (P j ∨ w0.heap.size ≤ j) → ¬ B' j := fun j hj hp hbj => by
    rw [← hB'] at hbj
    rcases hbj with c | c
    · rcases hp with p | p
      · exact (h4 j c).1 p
      · have := (h4 j c).2; omega
    · omega
  refine (request_any hm (fun j hj => by rw [← hB']; exact .inr hj) h2 (fun z hz => hs z fun j hp hj => hz.block j hj (hfar j hj hp)) hl hok a b hk (by rw [h3]; exact hask)).mono fun e w' ⟨r, e1, hu, hR⟩ => ?_
  rcases hR with ⟨c, _⟩ | ⟨_, c, _⟩ | ⟨_, _, rfl, S', x, q1, q2, q3, q4, q5⟩
  · exact absurd hr c
  · exact absurd c hid
  · refine ⟨e1, ⟨x, ⟨_, mq, mp, S', q1.cut, q2, by rw [q5, h3], fun j hj => ⟨fun hp => ?_, hj.2⟩⟩, q3, q4⟩, fun j hp => hu.block j (by have := hPw j hp; have := hb.size; omega) (hfar j (by have := hPw j hp; have := hb.size; omega) (.inl hp)), hu.size, fun j hj hp => hu.block j hj (hfar j hj hp), hu.os, hu.tape, hu.output⟩
    have := hPw j hp
    have := hb.size
    exact hfar j (by omega) (.inl hp) hj.1
theorem ready_lq {P : Nat → Prop} {lb : Nat} {L1 L2 : List Am} {x : Am} {k : Int} {w : World} (h : Lq P lb (L1 ++ x :: L2) k w) (a b : Int) (hx : x.id = (a, b)) (hk : I.OkK (a, b)) :
    Calls Try.prog 21 #[PN lb, .agg #[.int .i64 a, .int .i64 b]] w fun e w' => ∃ r, e = .returned (.bool r) ∧ (r = true ↔ Rdy (wantsL L1) (x.cl.map (·.2))) ∧ Below w.heap.size w w' := by
  obtain ⟨B, mq, mp, S, h1, h2, h3, h4⟩ := h
  obtain ⟨r1, r2, r3⟩ := rdy_any h2
  rw [hx] at r1 r2 r3
  exact (ready_any h1 a b hk r2 r3).mono fun e w' ⟨e1, e2⟩ => ⟨_, e1, r1, e2⟩
theorem release_lq {P : Nat → Prop} {lb : Nat} {L1 L2 : List Am} {x : Am} {k : Int} {w : World} (h : Lq P lb (L1 ++ x :: L2) k w) (hPw : ∀ j, P j → j < w.heap.size) (a b : Int) (hx : x.id = (a, b)) (hk : I.OkK (a, b)) (hask : k ≤ 1099511627776) :
    Calls Try.prog 14 #[PN lb, .agg #[.int .i64 a, .int .i64 b]] w fun e w' => ∃ v, ∃ rdL : List Am, e = .returned (.tuple #[v, .int .i64 0]) ∧ Lq P lb (L1 ++ L2) k w' ∧ rdL.Sublist (L1 ++ L2) ∧ (∀ M1 m M2, L1 ++ L2 = M1 ++ m :: M2 → ∀ N1 N2, L1 ++ x :: L2 = N1 ++ m :: N2 → (m ∈ rdL ↔ Rdy (wantsL M1) (m.cl.map (·.2)) ∧ ¬ Rdy (wantsL N1) (m.cl.map (·.2)))) ∧ w'.ownsRow w.heap.size 29 2 v rdL.length ((rdL.map (·.id)).flatMap iC) ∧ w.heap.size ≤ w'.heap.size ∧ (∀ j, P j → w'.heap[j]? = w.heap[j]?) ∧ w'.os = w.os ∧ w'.tape = w.tape ∧ w'.output = w.output := by
  obtain ⟨B, mq, mp, S, h1, h2, h3, h4⟩ := h
  obtain ⟨B', hB'⟩ : ∃ B', (fun j => B j ∨ w.heap.size ≤ j) = B' := ⟨_, rfl⟩
  have hm : Mem B' lb mq mp w S := h1.mono fun j _ hj => by rw [← hB']; exact .inl hj
  have hfar : ∀ j, P j → ¬ B' j := fun j hp hbj => by
    rw [← hB'] at hbj
    rcases hbj with c | c
    · exact (h4 j c).1 hp
    · have := hPw j hp; omega
  refine (release_any hm (fun j hj => by rw [← hB']; exact .inr hj) h2 a b hk hx (by rw [h3]; exact hask)).mono fun e w' ⟨v, e1, ⟨S', rdL, q1, q2, q3, q4, q5, q6⟩, hu⟩ => ?_
  refine ⟨v, rdL, e1, ⟨_, mq, mp, S', q1.cut, q2, q3.trans h3, fun j hj => ⟨fun hp => hfar j hp hj.1, hj.2⟩⟩, q4, fun M1 m M2 hM N1 N2 hN => ?_, q6, hu.size, fun j hp => hu.block j (hPw j hp) (hfar j hp), hu.os, hu.tape, hu.output⟩
  rw [q5 m (by rw [hM]; simp)]
  rw [hM] at q2
  rw [hN] at h2
  rw [zr_iff q2, zr_iff h2]
end Go.Proofs.Yteenbebpdibbcaa
