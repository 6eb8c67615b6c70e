/- A store and the document's, side by side: what each operation leaves of both. -/
import Derived.Test.YtdcmkapfcmibeaaDoorR5
import Derived.Test.YtdcmkapfcmibeaaDoorF1
import Derived.Test.YtdcmkapfcmibeaaDoorP1
namespace Go.Proofs.YtdcmkapfcmibeaaDoor
open Go.RowKit
set_option maxRecDepth 100000

def hN (n : Nd) : Int := (n.h : Int)
/-- Where a key stands in a store's list. -/
theorem fd_lo {L : List Nd} (h : Rising L) (k : Ky) : fd k (L.map cl) = (lo k L).length := by
  induction L with
  | nil => rfl
  | cons a r ih =>
    obtain ⟨h1, h2⟩ := List.pairwise_cons.1 h
    unfold fd
    rw [List.map_cons, List.takeWhile_cons]
    by_cases c : ltK a.k k
    · have c' : decide (ltK (cl a).1 k) = true := decide_eq_true c
      rw [c']
      have e1 : lo k (a :: r) = a :: lo k r := by simp [lo, c]
      have e2 := ih h2
      unfold fd at e2
      simp [e1, e2]
    · have c' : decide (ltK (cl a).1 k) = false := decide_eq_false c
      rw [c']
      have e1 : lo k (a :: r) = [] := by
        refine List.filter_eq_nil_iff.2 fun n hn => ?_
        rcases List.mem_cons.1 hn with rfl | hn
        · simpa using c
        · simpa using fun d => c (ltK_trans (h1 n hn) d)
      simp [e1]
theorem lo_take {α : Type} {L : List Nd} (h : Rising L) (k : Ky) (f : Nd → α) : (L.map f).take (lo k L).length = (lo k L).map f ∧ (L.map f).drop (lo k L).length = (hi k L).map f := by
  have hs := h.split k
  generalize lo k L = T at *
  generalize hi k L = R at *
  subst hs
  have e : T.length = (T.map f).length := by simp
  rw [List.map_append, e]
  exact ⟨List.take_left, List.drop_left⟩
theorem isAt_hi {L : List Nd} (h : Rising L) (k : Ky) : isAt k (L.map cl) = true ↔ ∃ n r, hi k L = n :: r ∧ n.k = k := by
  unfold isAt
  rw [decide_eq_true_eq, fd_lo h k]
  have hs := h.split k
  have e : (L.map cl)[(lo k L).length]? = ((hi k L).map cl)[0]? := by
    have := (lo_take h k cl).2
    rw [← this, List.getElem?_drop, Nat.add_zero]
  rw [e]
  cases hi k L with
  | nil => simp
  | cons n r =>
    simp only [List.map_cons, List.getElem?_cons_zero, Option.map_some, Option.some.injEq, List.cons.injEq]
    constructor
    · intro hk; exact ⟨n, r, ⟨rfl, rfl⟩, hk⟩
    · rintro ⟨n', r', ⟨rfl, rfl⟩, hk⟩; exact hk

/-- A store, and the document's that holds the same. -/
structure Tw (w : World) (b0 sb hd base xb : Nat) (L : List Nd) (luck : Int) : Prop where
  sk : Sk w b0 sb hd L luck
  rf : Rf w base xb (L.map cl) (L.map hN) luck
  bs : base ≤ w.heap.size
theorem Tw.below {w w' : World} {b0 sb hd base xb : Nat} {L : List Nd} {luck : Int} (h : Tw w b0 sb hd base xb L luck) (hb : Below w.heap.size w w') : Tw w' b0 sb hd base xb L luck := ⟨h.sk.below hb, h.rf.below hb, Nat.le_trans h.bs hb.size⟩
theorem Sk.kind {w : World} {b0 sb hd : Nat} {L : List Nd} {luck : Int} (h : Sk w b0 sb hd L luck) {k : Nat} (hk : Bl sb hd L k) : ∃ cs T, w.heap[k]? = some (.cells cs T) ∧ (T = 75 ∨ T = 85) := by
  obtain ⟨N, hm, _⟩ := h.mem
  rcases hk with rfl | rfl | ⟨n, hn, rfl⟩
  · exact ⟨_, _, hm.sk, .inl rfl⟩
  · exact ⟨_, _, hm.head, .inr rfl⟩
  · exact ⟨_, _, hm.node n hn, .inr rfl⟩
theorem Rf.updS {w w' : World} {base xb : Nat} {l : List Pr} {hs : List Int} {X : Int} {S : Nat → Prop} (h : Rf w base xb l hs X) (hU : Upd S w.heap.size w w') (hS : ∀ k, S k → ∃ cs T, w.heap[k]? = some (.cells cs T) ∧ (T = 75 ∨ T = 85)) : Rf w' base xb l hs X := by
  have no : ∀ k cs T, w.heap[k]? = some (.cells cs T) → T ≠ 75 → T ≠ 85 → ¬ S k := fun k cs T hk h1 h2 c => by
    obtain ⟨cs', T', e, ht⟩ := hS k c
    rw [hk] at e
    simp only [Option.some.injEq, Obj.cells.injEq] at e
    rcases ht with ht | ht
    · exact h1 (e.2.1.trans ht)
    · exact h2 (e.2.1.trans ht)
  obtain ⟨⟨vl, vh, hx, hvl, hvh⟩⟩ := h
  refine ⟨⟨vl, vh, (hU.block xb (Array.getElem?_eq_some_iff.1 hx).1 (no _ _ _ hx (by decide) (by decide))).trans hx, own_keep hvl fun g hg => ?_, own_keep hvh fun g hg => ?_⟩⟩
  · rcases hvl.2 with ⟨e, _⟩ | ⟨g', c', cur, e, _, hh, _⟩
    · rw [e] at hg; cases hg
    · rw [e] at hg; cases hg
      exact hU.block g' (Array.getElem?_eq_some_iff.1 hh).1 (no _ _ _ hh (by decide) (by decide))
  · rcases hvh.2 with ⟨e, _⟩ | ⟨g', c', cur, e, _, hh, _⟩
    · rw [e] at hg; cases hg
    · rw [e] at hg; cases hg
      exact hU.block g' (Array.getElem?_eq_some_iff.1 hh).1 (no _ _ _ hh (by decide) (by decide))
theorem Sk.updR {w w' : World} {b0 sb hd : Nat} {L : List Nd} {luck : Int} {S : Nat → Prop} (h : Sk w b0 sb hd L luck) (hU : Upd S w.heap.size w w') (hS : ∀ k, S k → ∃ cs T, w.heap[k]? = some (.cells cs T) ∧ T ≠ 75 ∧ T ≠ 85) : Sk w' b0 sb hd L luck :=
  h.upd hU fun k hk c => by
    obtain ⟨cs, T, e, ht⟩ := h.kind hk
    obtain ⟨cs', T', e', h1, h2⟩ := hS k c
    rw [e] at e'
    simp only [Option.some.injEq, Obj.cells.injEq] at e'
    rcases ht with ht | ht
    · exact h1 (e'.2.1.symm.trans ht)
    · exact h2 (e'.2.1.symm.trans ht)
/-- What the document's store may turn: its struct, and rows of cells. -/
def Rb (w : World) (base xb k : Nat) : Prop := k = xb ∨ ∃ cs, w.heap[k]? = some (.cells cs 32) ∧ base ≤ k
/-- What a step of both may turn. -/
def Tb (w : World) (sb hd base xb : Nat) (L : List Nd) (k : Nat) : Prop := Bl sb hd L k ∨ Rb w base xb k
/-- What a step leaves. -/
def TwD (b0 sb hd base xb : Nat) (L : List Nd) (w w' : World) : Prop := ∃ L' luck', Tw w' b0 sb hd base xb L' luck' ∧ (∀ n ∈ L', (∃ m ∈ L, m.p = n.p) ∨ w.heap.size ≤ n.p) ∧ Upd (Tb w sb hd base xb L) w.heap.size w w'
theorem TwD.same {b0 sb hd base xb : Nat} {L : List Nd} {luck : Int} {w w' : World} (h : Tw w b0 sb hd base xb L luck) (hb : Below w.heap.size w w') : TwD b0 sb hd base xb L w w' := ⟨L, luck, h.below hb, fun n hn => .inl ⟨n, hn, rfl⟩, Upd.of hb⟩
/-- The store turned first, then the document's. -/
theorem tw_step {b0 sb hd base xb : Nat} {L L' : List Nd} {luck luck' : Int} {w w1 w2 : World} (h : Tw w b0 sb hd base xb L luck) (hs : Sk w1 b0 sb hd L' luck') (hU : Upd (Bl sb hd L) w.heap.size w w1)
    (hr : Rf w2 base xb (L'.map cl) (L'.map hN) luck') (hU2 : Upd (Rb w1 base xb) w1.heap.size w1 w2) (hx : w1.heap[xb]? = w.heap[xb]?) (hn : ∀ n ∈ L', (∃ m ∈ L, m.p = n.p) ∨ w.heap.size ≤ n.p) : TwD b0 sb hd base xb L w w2 := by
  obtain ⟨vl, vh, hxx, _⟩ := h.rf.at_
  refine ⟨L', luck', ⟨hs.updR hU2 fun k hk => ?_, hr, Nat.le_trans h.bs (Nat.le_trans hU.size hU2.size)⟩, hn, ?_⟩
  · rcases hk with rfl | ⟨cs, e, _⟩
    · exact ⟨_, _, hx.trans hxx, by decide, by decide⟩
    · exact ⟨_, _, e, by decide, by decide⟩
  · refine ⟨hU2.os.trans hU.os, hU2.tape.trans hU.tape, hU2.output.trans hU.output, Nat.le_trans hU.size hU2.size, fun k hk hno => ?_⟩
    have e := hU.block k hk fun c => hno (.inl c)
    refine (hU2.block k (Nat.lt_of_lt_of_le hk hU.size) fun c => hno (.inr ?_)).trans e
    rcases c with rfl | ⟨cs, c, hb⟩
    · exact .inl rfl
    · rw [e] at c; exact .inr ⟨cs, c, hb⟩
theorem Tw.most {w : World} {b0 sb hd base xb : Nat} {L : List Nd} {luck : Int} (h : Tw w b0 sb hd base xb L luck) : (L.map cl).length ≤ 1048576 := by rw [List.length_map]; exact h.sk.most
theorem Tw.xlt {w : World} {b0 sb hd base xb : Nat} {L : List Nd} {luck : Int} (h : Tw w b0 sb hd base xb L luck) : xb < w.heap.size := h.rf.lt
theorem Tw.xno {w : World} {b0 sb hd base xb : Nat} {L : List Nd} {luck : Int} (h : Tw w b0 sb hd base xb L luck) : ¬ Bl sb hd L xb := fun c => by
  obtain ⟨cs, T, e, ht⟩ := h.sk.kind c
  obtain ⟨vl, vh, hx, _⟩ := h.rf.at_
  rw [hx] at e
  simp only [Option.some.injEq, Obj.cells.injEq] at e
  have e2 := e.2.1
  rcases ht with rfl | rfl <;> cases e2
theorem upd_rb {w w' : World} {base xb : Nat} (h : Upd (fun k => k = xb) w.heap.size w w') : Upd (Rb w base xb) w.heap.size w w' := h.mono (Nat.le_refl _) fun _ _ c => .inl c
/-- Erase of both: the answers are the same. -/
theorem tw_erase {w : World} {b0 sb hd base xb : Nat} {L : List Nd} {luck : Int} (h : Tw w b0 sb hd base xb L luck) (k : Ky) :
    ∃ r : Int, Calls Tryd.prog 18 #[PN sb, .agg #[.int .i32 k.1, .int .i64 k.2]] w fun e w1 => e = .returned (.int .i64 r) ∧ w.heap.size ≤ w1.heap.size ∧ (∀ j, j < w.heap.size → ¬ Bl sb hd L j → w1.heap[j]? = w.heap[j]?) ∧
      ∀ w1', Below w1.heap.size w1 w1' → Calls Tryd.prog 36 #[PN xb, .agg #[.int .i32 k.1, .int .i64 k.2]] w1' fun e' w2 => e' = .returned (.int .i64 r) ∧ TwD b0 sb hd base xb L w w2 := by
  have hr := h.sk.rise
  by_cases hat : isAt k (L.map cl) = true
  · obtain ⟨n, r, hR, hk⟩ := (isAt_hi hr k).1 hat
    refine ⟨0, (erase_has h.sk k rfl hR hk).mono ?_⟩
    rintro e w1 ⟨rfl, hs, hU⟩
    refine ⟨rfl, hU.size, fun j hj hn => hU.block j hj hn, fun w1' hb1 => ?_⟩
    have hrf : Rf w1' base xb (L.map cl) (L.map hN) luck := (h.rf.updS hU fun j hj => h.sk.kind hj).below hb1
    have hU1 : Upd (Bl sb hd L) w.heap.size w w1' := hU.trans ((Upd.of hb1).less hU.size)
    refine (rerase_has hrf k (Nat.le_trans h.bs hU1.size) h.most (by simp) hat).mono ?_
    rintro e w2 ⟨rfl, hrf2, hU2⟩
    refine ⟨rfl, ?_⟩
    have hsp := hr.split k
    rw [hR] at hsp
    obtain ⟨t1, t2⟩ := lo_take hr k cl
    obtain ⟨u1, u2⟩ := lo_take hr k hN
    rw [hR] at t2 u2
    rw [fd_lo hr k, t1, u1, ← List.drop_drop, t2, ← List.drop_drop, u2] at hrf2
    have e1 : (lo k L).map cl ++ ((n :: r).map cl).drop 1 = (lo k L ++ r).map cl := by simp
    have e2 : (lo k L).map hN ++ ((n :: r).map hN).drop 1 = (lo k L ++ r).map hN := by simp
    rw [e1, e2] at hrf2
    refine tw_step h (hs.below hb1) hU1 hrf2 (upd_rb hU2) (hU1.block xb h.xlt h.xno) fun y hy => .inl ⟨y, ?_, rfl⟩
    rw [hsp]
    rcases List.mem_append.1 hy with hy | hy
    · exact List.mem_append_left _ hy
    · exact List.mem_append_right _ (List.mem_cons_of_mem _ hy)
  · have hat' : isAt k (L.map cl) = false := by simpa using hat
    have hnk : ∀ m ∈ hi k L, m.k ≠ k := by
      rcases hi_cases h.sk k with ⟨n, r, hR, hk⟩ | hno
      · exact absurd ((isAt_hi hr k).2 ⟨n, r, hR, hk⟩) hat
      · exact hno
    refine ⟨4, (erase_none h.sk k rfl rfl hnk).mono ?_⟩
    rintro e w1 ⟨rfl, hb⟩
    refine ⟨rfl, hb.size, fun j hj _ => hb.block j hj, fun w1' hb1 => ?_⟩
    have hb2 : Below w.heap.size w w1' := hb.trans (hb1.mono hb.size)
    refine (rerase_none (h.rf.below hb2) k hat').mono ?_
    rintro e w2 ⟨rfl, hb3⟩
    exact ⟨rfl, TwD.same h (hb2.trans (hb3.mono hb2.size))⟩
/-- Put of both. -/
theorem tw_put {w : World} {b0 sb hd base xb : Nat} {L : List Nd} {luck : Int} (h : Tw w b0 sb hd base xb L luck) (hT : Tab w) (hb0 : 0 < b0) (c : Pr) (hk1 : -2147483648 ≤ c.1.1 ∧ c.1.1 ≤ 2147483647) (hk2 : -9223372036854775808 ≤ c.1.2 ∧ c.1.2 ≤ 9223372036854775807) (hv : -9223372036854775808 ≤ c.2.1 ∧ c.2.1 ≤ 9223372036854775807) :
    ∃ r : Int, Calls Tryd.prog 19 #[PN sb, .agg #[.int .i32 c.1.1, .int .i64 c.1.2, .int .i64 c.2.1, .int .i64 c.2.2]] w fun e w1 => e = .returned (.int .i64 r) ∧ w.heap.size ≤ w1.heap.size ∧ (∀ j, j < w.heap.size → ¬ Bl sb hd L j → w1.heap[j]? = w.heap[j]?) ∧
      ∀ w1', Below w1.heap.size w1 w1' → Calls Tryd.prog 35 #[PN xb, .agg #[.int .i32 c.1.1, .int .i64 c.1.2, .int .i64 c.2.1, .int .i64 c.2.2]] w1' fun e' w2 => e' = .returned (.int .i64 r) ∧ TwD b0 sb hd base xb L w w2 := by
  have hr := h.sk.rise
  by_cases hs : c.2.2 < 0 ∨ 1099511627776 < c.2.2
  · refine ⟨1, (put_arg h.sk c.1 c.2.1 c.2.2 hs).mono ?_⟩
    rintro e w1 ⟨rfl, hb⟩
    refine ⟨rfl, hb.size, fun j hj _ => hb.block j hj, fun w1' hb1 => ?_⟩
    have hb2 : Below w.heap.size w w1' := hb.trans (hb1.mono hb.size)
    refine (rput_arg c hs).mono ?_
    rintro e w2 ⟨rfl, hb3⟩
    exact ⟨rfl, TwD.same h (hb2.trans (hb3.mono hb2.size))⟩
  · have hs0 : 0 ≤ c.2.2 := by omega
    have hs1 : c.2.2 ≤ 1099511627776 := by omega
    obtain ⟨t1, t2⟩ := lo_take hr c.1 cl
    obtain ⟨u1, u2⟩ := lo_take hr c.1 hN
    have hsp := hr.split c.1
    by_cases hat : isAt c.1 (L.map cl) = true
    · obtain ⟨n, r, hR, hk⟩ := (isAt_hi hr c.1).1 hat
      refine ⟨0, (put_has h.sk c.1 c.2.1 c.2.2 hs0 hs1 hv rfl hR hk).mono ?_⟩
      rintro e w1 ⟨rfl, hsk, hU⟩
      refine ⟨rfl, hU.size, fun j hj hn => hU.block j hj hn, fun w1' hb1 => ?_⟩
      have hrf : Rf w1' base xb (L.map cl) (L.map hN) luck := (h.rf.updS hU fun j hj => h.sk.kind hj).below hb1
      have hU1 : Upd (Bl sb hd L) w.heap.size w w1' := hU.trans ((Upd.of hb1).less hU.size)
      refine (rput_has hrf c hs0 hs1 hat h.most).mono ?_
      rintro e w2 ⟨rfl, hrf2, hU2⟩
      refine ⟨rfl, ?_⟩
      rw [hR] at hsp
      have e1 : (L.map cl).set (fd c.1 (L.map cl)) c = (lo c.1 L ++ ⟨n.p, n.k, c.2.1, c.2.2, n.h⟩ :: r).map cl := by
        have hL : L.map cl = (lo c.1 L).map cl ++ cl n :: r.map cl := by
          conv => lhs; rw [hsp]
          simp
        rw [fd_lo hr c.1, hL, List.map_append, List.map_cons, List.set_append_right _ _ (by rw [List.length_map]; exact Nat.le_refl _)]
        rw [List.length_map, Nat.sub_self, List.set_cons_zero]
        have : c = cl ⟨n.p, n.k, c.2.1, c.2.2, n.h⟩ := by unfold cl; rw [hk]
        rw [← this]
      have e2 : L.map hN = (lo c.1 L ++ ⟨n.p, n.k, c.2.1, c.2.2, n.h⟩ :: r).map hN := by
        conv => lhs; rw [hsp]
        simp [hN]
      rw [e1, e2] at hrf2
      refine tw_step h (hsk.below hb1) hU1 hrf2 (hU2.mono (Nat.le_refl _) fun _ _ c => .inr c) (hU1.block xb h.xlt h.xno) fun y hy => .inl ?_
      rcases List.mem_append.1 hy with hy | hy
      · exact ⟨y, by rw [hsp]; exact List.mem_append_left _ hy, rfl⟩
      · rcases List.mem_cons.1 hy with rfl | hy
        · exact ⟨n, by rw [hsp]; simp, rfl⟩
        · exact ⟨y, by rw [hsp]; exact List.mem_append_right _ (List.mem_cons_of_mem _ hy), rfl⟩
    · have hat' : isAt c.1 (L.map cl) = false := by simpa using hat
      have hnk : ∀ m ∈ hi c.1 L, m.k ≠ c.1 := by
        rcases hi_cases h.sk c.1 with ⟨n, r, hR, hk⟩ | hno
        · exact absurd ((isAt_hi hr c.1).2 ⟨n, r, hR, hk⟩) hat
        · exact hno
      by_cases hf : L.length = 1048576
      · refine ⟨6, (put_full h.sk c.1 c.2.1 c.2.2 hs0 hs1 rfl rfl hnk hf).mono ?_⟩
        rintro e w1 ⟨rfl, hb⟩
        refine ⟨rfl, hb.size, fun j hj _ => hb.block j hj, fun w1' hb1 => ?_⟩
        have hb2 : Below w.heap.size w w1' := hb.trans (hb1.mono hb.size)
        refine (rput_full (h.rf.below hb2) c hs0 hs1 hat' (by rw [List.length_map]; exact hf)).mono ?_
        rintro e w2 ⟨rfl, hb3⟩
        exact ⟨rfl, TwD.same h (hb2.trans (hb3.mono hb2.size))⟩
      · have hlen : L.length < 1048576 := by have := h.sk.most; omega
        refine ⟨0, (put_new h.sk hT hb0 c.1 c.2.1 c.2.2 (okN_of hk1 hk2 hv ⟨hs0, hs1⟩) rfl rfl hnk hlen).mono ?_⟩
        rintro e w1 ⟨rfl, ⟨p, hp, hsk⟩, hU⟩
        refine ⟨rfl, hU.size, fun j hj hn => hU.block j hj hn, fun w1' hb1 => ?_⟩
        have hrf : Rf w1' base xb (L.map cl) (L.map hN) luck := (h.rf.updS hU fun j hj => h.sk.kind hj).below hb1
        have hU1 : Upd (Bl sb hd L) w.heap.size w w1' := hU.trans ((Upd.of hb1).less hU.size)
        refine (rput_new hrf c hs0 hs1 (Nat.le_trans h.bs hU1.size) hat' (by rw [List.length_map]; exact hlen) (by simp) h.sk.lk).mono ?_
        rintro e w2 ⟨rfl, hrf2, hU2⟩
        refine ⟨rfl, ?_⟩
        rw [fd_lo hr c.1, t1, t2, u1, u2] at hrf2
        have hh : ((hgt (nextX luck)).toNat : Int) = hgt (nextX luck) := by have := hgt_range (nextX luck); omega
        have e1 : (lo c.1 L).map cl ++ c :: (hi c.1 L).map cl = (lo c.1 L ++ ⟨p, c.1, c.2.1, c.2.2, (hgt (nextX luck)).toNat⟩ :: hi c.1 L).map cl := by simp [cl]
        have e2 : (lo c.1 L).map hN ++ hgt (nextX luck) :: (hi c.1 L).map hN = (lo c.1 L ++ ⟨p, c.1, c.2.1, c.2.2, (hgt (nextX luck)).toNat⟩ :: hi c.1 L).map hN := by simp [hN, hh]
        rw [e1, e2] at hrf2
        refine tw_step h (hsk.below hb1) hU1 hrf2 (upd_rb hU2) (hU1.block xb h.xlt h.xno) fun y hy => ?_
        rcases List.mem_append.1 hy with hy | hy
        · exact .inl ⟨y, by rw [hsp]; exact List.mem_append_left _ hy, rfl⟩
        · rcases List.mem_cons.1 hy with rfl | hy
          · exact .inr hp
          · exact .inl ⟨y, by rw [hsp]; exact List.mem_append_right _ hy, rfl⟩
/-- Get of both: the answers are the same. -/
theorem tw_get {w : World} {b0 sb hd base xb : Nat} {L : List Nd} {luck : Int} (h : Tw w b0 sb hd base xb L luck) (k : Ky) :
    ∃ (q : Pr) (is : Bool), Calls Tryd.prog 20 #[PN sb, .agg #[.int .i32 k.1, .int .i64 k.2]] w (fun e w1 => e = .returned (.tuple #[.agg #[.int .i32 q.1.1, .int .i64 q.1.2, .int .i64 q.2.1, .int .i64 q.2.2], .bool is]) ∧ Below w.heap.size w w1) ∧
      ∀ w1, Below w.heap.size w w1 → Calls Tryd.prog 37 #[PN xb, .agg #[.int .i32 k.1, .int .i64 k.2]] w1 fun e w2 => e = .returned (.tuple #[.agg #[.int .i32 q.1.1, .int .i64 q.1.2, .int .i64 q.2.1, .int .i64 q.2.2], .bool is]) ∧ Below w1.heap.size w1 w2 := by
  have hr := h.sk.rise
  by_cases hat : isAt k (L.map cl) = true
  · obtain ⟨n, r, hR, hk⟩ := (isAt_hi hr k).1 hat
    refine ⟨cl n, true, get_has h.sk k rfl hR hk, fun w1 hb => ?_⟩
    have e : (L.map cl)[fd k (L.map cl)]? = some (cl n) := by
      have := (lo_take hr k cl).2
      rw [hR] at this
      rw [fd_lo hr k]
      have h0 : ((L.map cl).drop (lo k L).length)[0]? = some (cl n) := by rw [this]; rfl
      rw [List.getElem?_drop, Nat.add_zero] at h0
      exact h0
    exact rget_has (h.rf.below hb) k e hk
  · have hat' : isAt k (L.map cl) = false := by simpa using hat
    have hnk : ∀ m ∈ hi k L, m.k ≠ k := by
      rcases hi_cases h.sk k with ⟨n, r, hR, hk⟩ | hno
      · exact absurd ((isAt_hi hr k).2 ⟨n, r, hR, hk⟩) hat
      · exact hno
    exact ⟨((0, 0), 0, 0), false, get_no h.sk k rfl rfl hnk, fun w1 hb => rget_no (h.rf.below hb) k hat'⟩
end Go.Proofs.YtdcmkapfcmibeaaDoor
