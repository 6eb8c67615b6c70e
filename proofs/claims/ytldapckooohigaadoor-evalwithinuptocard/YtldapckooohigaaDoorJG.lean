/- Several texts as one. -/
import Derived.Test.YtldapckooohigaaDoorE6
import Derived.Test.YtldapckooohigaaDoorE7
import Derived.Test.YtldapckooohigaaDoorE8
import Derived.Test.YtldapckooohigaaDoorJF
import Derived.Test.YtldapckooohigaaDoorE11

/- do, of each instruction. -/
namespace Go.Proofs.YtldapckooohigaaDoor
open Go.RowKit
set_option maxRecDepth 100000

/-- An instruction that may run. -/
structure OkX (E : Env) (P : Tp) (x : Ins) : Prop where
  a : 0 ≤ x.a ∧ x.a < 8
  b : 0 ≤ x.b ∧ x.b < 8
  arg : x.op = 2 → 0 ≤ x.im ∧ x.im < P.ar.length
  read : x.op = 3 ∨ x.op = 4 → 0 ≤ x.im ∧ x.im < P.rs.length
  write : x.op = 5 ∨ x.op = 6 → 0 ≤ x.im ∧ x.im < P.ws.length
  jump : x.op = 22 ∨ x.op = 23 → 0 ≤ x.im ∧ x.im < 512 ∧ E.pl.getD x.im.toNat 0 = (plP P.L x.im : Int)
  near : x.op = 25 ∨ x.op = 26 ∨ x.op = 27 → 0 ≤ x.im ∧ x.im ≤ 65535
theorem setR_eq {s : Mc} {A : Nat} {v : Int} : setR s (A : Int) v = { s with rg := s.rg.set A v } := by simp [setR]
theorem rgA_eq {s : Mc} {A : Nat} : rgA s (A : Int) = s.rg.getD A 0 := by simp [rgA]
theorem do_any {w0 w : World} {b : Nat} {E : Env} {P : Tp} {s : Mc} {ov : Value} (h : RunIs w0 b E P s ov w) (ho : RunOf w0 E P) {x : Ins} (hx : OkX E P x) (hl : s.out.length ≤ 8) :
    Calls Tryd.prog 50 #[.pointer (some ⟨b, 0, none⟩), iW x] w fun e w' => e = .returned (.int .i64 (doP P x s).2) ∧ ∃ ov', RunIs w0 b E P (doP P x s).1 ov' w' := by
  obtain ⟨ad, op, a, bb, im⟩ := x
  obtain ⟨hxa, hxb, harg, hrd, hwr, hjm, hnr⟩ := hx
  simp only at hxa hxb harg hrd hwr hjm hnr
  obtain ⟨A, rfl⟩ := Int.eq_ofNat_of_zero_le hxa.1
  obtain ⟨B, rfl⟩ := Int.eq_ofNat_of_zero_le hxb.1
  have hA : A < 8 := by omega
  have hB : B < 8 := by omega
  have key : ∀ {r : Mc × Int} {op im : Int}, (Calls Tryd.prog 50 #[.pointer (some ⟨b, 0, none⟩), .agg #[.int .i64 ad, .int .i64 op, .int .i64 (A : Int), .int .i64 (B : Int), .int .i64 im]] w fun e w' => e = .returned (.int .i64 r.2) ∧ RunIs w0 b E P r.1 ov w') → doP P ⟨ad, op, A, B, im⟩ s = r → Calls Tryd.prog 50 #[.pointer (some ⟨b, 0, none⟩), iW ⟨ad, op, A, B, im⟩] w fun e w' => e = .returned (.int .i64 (doP P ⟨ad, op, A, B, im⟩ s).2) ∧ ∃ ov', RunIs w0 b E P (doP P ⟨ad, op, A, B, im⟩ s).1 ov' w' := fun hc he => by
    rw [he]
    exact hc.mono fun e w' ⟨h1, h2⟩ => ⟨h1, ov, h2⟩
  by_cases o0 : op = 0
  · subst o0
    exact key (r := (_, 0)) (do_halt h ho ad im A B hA hB) (by simp [doP])
  by_cases o1 : op = 1
  · subst o1
    exact key (r := (_, 0)) (do_const h ho ad im A B hA hB) (by simp [doP, setR])
  by_cases o2 : op = 2
  · subst o2
    obtain ⟨q1, q2⟩ := harg rfl
    obtain ⟨I, rfl⟩ := Int.eq_ofNat_of_zero_le q1
    exact key (r := (_, 0)) (do_arg h ho ad I A B hA hB (by omega)) (by simp [doP, setR])
  by_cases o7 : op = 7
  · subst o7
    exact key (r := (_, 0)) (do_move h ho ad im A B hA hB) (by simp [doP, setR, rgA])
  by_cases o3 : op = 3
  · subst o3
    obtain ⟨q1, q2⟩ := hrd (.inl rfl)
    obtain ⟨I, rfl⟩ := Int.eq_ofNat_of_zero_le q1
    exact key (r := (_, 0)) (do_load h ho ad I A B hA hB (by omega)) (by simp [doP, setR])
  by_cases o4 : op = 4
  · subst o4
    obtain ⟨q1, q2⟩ := hrd (.inr rfl)
    obtain ⟨I, rfl⟩ := Int.eq_ofNat_of_zero_le q1
    exact key (r := (_, 0)) (do_has h ho ad I A B hA hB (by omega)) (by simp [doP, setR])
  by_cases o5 : op = 5
  · subst o5
    obtain ⟨q1, q2⟩ := hwr (.inl rfl)
    obtain ⟨I, rfl⟩ := Int.eq_ofNat_of_zero_le q1
    exact key (r := (_, 0)) (do_store h ho ad I A B hA hB (by omega)) (by simp [doP, rgA, wrP])
  by_cases o6 : op = 6
  · subst o6
    obtain ⟨q1, q2⟩ := hwr (.inr rfl)
    obtain ⟨I, rfl⟩ := Int.eq_ofNat_of_zero_le q1
    exact key (r := (_, 0)) (do_erase h ho ad I A B hA hB (by omega)) (by simp [doP, wrP])
  by_cases o19 : op = 19
  · subst o19
    exact key (r := (_, 0)) (do_narrow h ho ad im A B hA hB) (by simp [doP, setR, rgA])
  by_cases o22 : op = 22
  · subst o22
    obtain ⟨q1, q2, q3⟩ := hjm (.inl rfl)
    obtain ⟨I, rfl⟩ := Int.eq_ofNat_of_zero_le q1
    exact key (r := (_, 0)) (do_jump h ho ad I A B hA hB (by omega) _ q3) (by simp [doP])
  by_cases o23 : op = 23
  · subst o23
    obtain ⟨q1, q2, q3⟩ := hjm (.inr rfl)
    obtain ⟨I, rfl⟩ := Int.eq_ofNat_of_zero_le q1
    by_cases hz : s.rg.getD A 0 = 0
    · have hz' : rgA s (A : Int) = 0 := by rw [rgA_eq]; exact hz
      exact key (r := (_, 0)) (do_jumpif0 h ho ad I A B hA hB hz) (by simp [doP, hz'])
    · have hz' : ¬ rgA s (A : Int) = 0 := by rw [rgA_eq]; exact hz
      exact key (r := (_, 0)) (do_jumpif1 h ho ad I A B hA hB hz (by omega) _ q3) (by simp [doP, hz'])
  by_cases o24 : op = 24
  · subst o24
    have e : doP P ⟨ad, 24, A, B, im⟩ s = if s.out.length = 8 then (s, 5) else ({ s with out := s.out ++ [s.rg.getD A 0] }, 0) := by simp [doP, rgA]
    rw [e]
    refine (do_out h ho ad im A B hA hB hl).mono fun e w' ⟨h1, ov', h2⟩ => ?_
    by_cases h8 : s.out.length = 8
    · rw [if_pos h8] at h1 h2 ⊢
      exact ⟨h1, ov', h2⟩
    · rw [if_neg h8] at h1 h2 ⊢
      exact ⟨h1, ov', h2⟩
  by_cases o25 : op = 25
  · subst o25
    obtain ⟨q1, q2⟩ := hnr (.inl rfl)
    exact key (r := (s, 100 + im)) (do_abort h ho ad im A B hA hB q1 q2) (by simp [doP])
  by_cases o26 : op = 26
  · subst o26
    obtain ⟨q1, q2⟩ := hnr (.inr (.inl rfl))
    obtain ⟨I, rfl⟩ := Int.eq_ofNat_of_zero_le q1
    by_cases hin : ((I : Int), s.rg.getD B 0) ∈ P.rs
    · have hin' : ((I : Int), rgA s (B : Int)) ∈ P.rs := by rw [rgA_eq]; exact hin
      exact key (r := (_, 0)) (do_loadAt1 h ho ad I A B hA hB (by omega) hin) (by rw [show doP P ⟨ad, 26, A, B, I⟩ s = if ((I : Int), rgA s (B : Int)) ∈ P.rs then (setR s (A : Int) ((valP P s ((I : Int), rgA s (B : Int))).getD 0), 0) else (s, 4) by simp [doP], if_pos hin', rgA_eq, setR_eq])
    · have hin' : ((I : Int), rgA s (B : Int)) ∉ P.rs := by rw [rgA_eq]; exact hin
      exact key (r := (s, 4)) (do_loadAt0 h ho ad I A B hA hB (by omega) hin) (by simp [doP, hin'])
  by_cases o27 : op = 27
  · subst o27
    obtain ⟨q1, q2⟩ := hnr (.inr (.inr rfl))
    obtain ⟨I, rfl⟩ := Int.eq_ofNat_of_zero_le q1
    by_cases hin : ((I : Int), s.rg.getD B 0) ∈ P.ws
    · have hin' : ((I : Int), rgA s (B : Int)) ∈ P.ws := by rw [rgA_eq]; exact hin
      exact key (r := (_, 0)) (do_storeAt1 h ho ad I A B hA hB (by omega) hin) (by rw [show doP P ⟨ad, 27, A, B, I⟩ s = if ((I : Int), rgA s (B : Int)) ∈ P.ws then (wrP s (((I : Int), rgA s (B : Int)), (rgA s (A : Int), false)), 0) else (s, 4) by simp [doP], if_pos hin', rgA_eq, rgA_eq]; rfl)
    · have hin' : ((I : Int), rgA s (B : Int)) ∉ P.ws := by rw [rgA_eq]; exact hin
      exact key (r := (s, 4)) (do_storeAt0 h ho ad I A B hA hB (by omega) hin) (by simp [doP, hin'])
  exact key (r := (_, _)) (do_binary h ho op ad im A B hA hB o0 o1 o2 o7 o3 o4 o5 o6 o19 o22 o23 o24 o25 o26 o27) (by simp [doP, o0, o1, o2, o7, o3, o4, o5, o6, o19, o22, o23, o24, o25, o26, o27, setR, rgA_eq])

/-! ### a run, in pure terms -/
theorem iteQ {α : Type} (Q : α → Prop) {c : Prop} [Decidable c] {a b : α} (ha : c → Q a) (hb : ¬ c → Q b) : Q (if c then a else b) := by
  by_cases h : c
  · rw [if_pos h]; exact ha h
  · rw [if_neg h]; exact hb h
theorem doP_st (P : Tp) (x : Ins) (s : Mc) : (doP P x s).1.st = s.st := by
  unfold doP
  repeat (first | exact rfl | (refine iteQ (fun r : Mc × Int => r.1.st = s.st) (fun _ => ?_) (fun _ => ?_)) | exact iteQ (fun r : Mc => r.st = s.st) (fun _ => rfl) (fun _ => rfl))
theorem doP_out (P : Tp) (x : Ins) (s : Mc) (h : s.out.length ≤ 8) : (doP P x s).1.out.length ≤ 8 := by
  unfold doP
  repeat (first | exact h | (refine iteQ (fun r : Mc × Int => r.1.out.length ≤ 8) (fun _ => ?_) (fun _ => ?_)) | exact iteQ (fun r : Mc => r.out.length ≤ 8) (fun _ => h) (fun _ => h) | (simp only [List.length_append, List.length_cons, List.length_nil]; omega))
/-- An instruction on, one more step. -/
def onP (s : Mc) : Mc := { s with st := s.st + 1, pc := s.pc + 1 }
def goP (P : Tp) : Nat → Mc → Mc × Int
  | 0, s => if s.pc < P.L.length then (s, 2) else (s, 0)
  | n + 1, s => match P.L[s.pc]? with
    | none => (s, 0)
    | some x => if (doP P x (onP s)).2 = 0 then goP P n (doP P x (onP s)).1 else doP P x (onP s)
theorem goP_end {P : Tp} {n : Nat} {s : Mc} (h : ¬ s.pc < P.L.length) : goP P n s = (s, 0) := by
  cases n
  · exact if_neg h
  · unfold goP
    rw [List.getElem?_eq_none (by omega)]
theorem goP_zero {P : Tp} {s : Mc} (h : s.pc < P.L.length) : goP P 0 s = (s, 2) := if_pos h
theorem goP_step {P : Tp} {n : Nat} {s : Mc} {x : Ins} (h : P.L[s.pc]? = some x) (h0 : (doP P x (onP s)).2 = 0) : goP P (n + 1) s = goP P n (doP P x (onP s)).1 := by
  conv => lhs; unfold goP
  rw [h]
  exact if_pos h0
theorem goP_stop {P : Tp} {n : Nat} {s : Mc} {x : Ins} (h : P.L[s.pc]? = some x) (h0 : (doP P x (onP s)).2 ≠ 0) : goP P (n + 1) s = doP P x (onP s) := by
  conv => lhs; unfold goP
  rw [h]
  exact if_neg h0
end Go.Proofs.YtldapckooohigaaDoor

/- goOn. -/
namespace Go.Proofs.YtldapckooohigaaDoor
open Go.RowKit
set_option maxRecDepth 100000

theorem RunIs.ins {w0 w : World} {b : Nat} {E : Env} {P : Tp} {s : Mc} {ov : Value} (h : RunIs w0 b E P s ov w) :
    ∃ g cap, (0 < P.L.length → E.lv = .slice (some ⟨g, 0, none⟩) P.L.length cap) ∧ (∃ al, E.lv = .slice al P.L.length cap) ∧ ∀ t x, P.L[t]? = some x → w.cell? ⟨g, t * 5, none⟩ = some (.int .i64 x.ad) ∧ w.cell? ⟨g, t * 5 + 1, none⟩ = some (.int .i64 x.op) ∧ w.cell? ⟨g, t * 5 + 2, none⟩ = some (.int .i64 x.a) ∧ w.cell? ⟨g, t * 5 + 3, none⟩ = some (.int .i64 x.b) ∧ w.cell? ⟨g, t * 5 + 4, none⟩ = some (.int .i64 x.im) := by
  obtain ⟨_, hs⟩ := own_sees iC_len (by decide) h.lst
  rcases h.lst.2 with ⟨hn, h0⟩ | ⟨g, cap, cur, hv, _⟩
  · refine ⟨0, 0, fun h1 => ?_, ⟨_, hn.trans (by rw [h0])⟩, fun t x hx => ?_⟩
    · omega
    · have := (List.getElem?_eq_some_iff.1 hx).1
      omega
  · obtain ⟨ao', cap', gb, ob, hv', _, hao, hc⟩ := hs.ins
    rw [hv] at hv'
    simp only [Value.slice.injEq] at hv'
    obtain ⟨rfl, _⟩ := hv'
    refine ⟨g, cap, fun _ => hv, ⟨_, hv⟩, fun t x hx => ?_⟩
    have e := hao (by have := (List.getElem?_eq_some_iff.1 hx).1; omega)
    simp only [Option.some.injEq, Addr.mk.injEq] at e
    obtain ⟨rfl, rfl, _⟩ := e
    have := hc t x hx
    simpa using this
set_option maxHeartbeats 3200000 in
theorem go_any {w0 w : World} {b : Nat} {E : Env} {P : Tp} {s0 : Mc} {ov : Value} (h : RunIs w0 b E P s0 ov w) (ho : RunOf w0 E P) (hx : ∀ x ∈ P.L, OkX E P x) (hl : s0.out.length ≤ 8) (F : Nat) (hF : F ≤ 4096) (hst : s0.st ≤ F) (hL : P.L.length ≤ 512) :
    Calls Tryd.prog 39 #[.pointer (some ⟨b, 0, none⟩), .int .i64 (F : Int)] w fun e w' => ∃ ov', e = .returned (.int .i64 (goP P (F - s0.st) s0).2) ∧ RunIs w0 b E P (goP P (F - s0.st) s0).1 ov' w' := by
  obtain ⟨R, hR⟩ : ∃ R, goP P (F - s0.st) s0 = R := ⟨_, rfl⟩
  rw [hR]
  have HO := hide ho
  have HX := hide hx
  have HP := hide ho.pll
  have HF := hide hF
  have HLL := hide hL
  have HI : Hid (∃ (s : Mc) (ov : Value), RunIs w0 b E P s ov w ∧ s.out.length ≤ 8 ∧ s.st ≤ F ∧ goP P (F - s.st) s = R) := ⟨s0, ov, h, hl, hst, hR⟩
  clear ho hx hF hR h hl hst hL
  go_enter Tryd.func39, Tryd.ntmps39
  go_wp2
  go_loopw [] (fun wr => ∃ (s : Mc) (ov : Value), RunIs w0 b E P s ov wr ∧ s.out.length ≤ 8 ∧ s.st ≤ F ∧ goP P (F - s.st) s = R) (fun wr => F - (intOf ((wr.cell? ⟨b, 520, none⟩).getD (.int .i64 0))).toNat)
  case atStart => exact unhide HI
  case round =>
    obtain ⟨s, ov1, hr, ho8, hsF, hg⟩ := hrel
    obtain ⟨wo, hwo⟩ : ∃ x, x = wr := ⟨_, rfl⟩
    subst hwo
    have hp := unhide HP
    obtain ⟨g, cp, hlv, ⟨al0, hlv0⟩, hins⟩ := hr.ins
    have c519 : wo.cell? ⟨b, 519, none⟩ = some (.int .i64 (s.pc : Int)) := (hr.cell _).trans (rC_pc hp)
    have c520 : wo.cell? ⟨b, 520, none⟩ = some (.int .i64 (s.st : Int)) := (hr.cell _).trans (rC_st hp)
    have c6 : wo.cell? ⟨b, 6, none⟩ = some E.lv := (hr.cell _).trans ((rC_hd (by omega)).trans rfl)
    have hLL := unhide HLL
    obtain ⟨n, hn⟩ : ∃ n, P.L.length = n := ⟨_, rfl⟩
    have HN := hide hn
    by_cases hlt : s.pc < P.L.length
    · obtain ⟨x, hxs⟩ : ∃ x, P.L[s.pc]? = some x := ⟨_, List.getElem?_eq_getElem hlt⟩
      rw [hlv (by omega), hn] at c6
      by_cases hF : s.st = F
      · have hgz : goP P (F - s.st) s = (s, 2) := by rw [hF, Nat.sub_self]; exact goP_zero hlt
        have hc1 : (s.pc : Int) < (n : Int) := by omega
        have hc2 : ((s.st : Int) == (F : Int)) = true := by simp [hF]
        have hRes : (R.2 = 2) ∧ R.1 = s := by rw [← hg, hgz]; exact ⟨rfl, rfl⟩
        have HRes := hide hRes
        have HR1 := hide hr
        clear hr hins hlv hlv0 hxs hlt hn hg hgz hRes hF hp hLL ho8 hsF
        go_wp2
        go_quiet (fail)
        go_wp2
        go_ret
        obtain ⟨q1, q2⟩ := unhide HRes
        exact ⟨ov1, by rw [q1]; rfl, by rw [q2]; exact (unhide HR1).drewN _⟩
      · obtain ⟨z0, z1, z2, z3, z4⟩ := hins s.pc x hxs
        have hc1 : (s.pc : Int) < (n : Int) := by omega
        have hc2 : ((s.st : Int) == (F : Int)) = false := by simp; omega
        have hXX := unhide HX x (List.mem_of_getElem? hxs)
        obtain ⟨m, hm⟩ : ∃ m, F - s.st = m + 1 := ⟨F - s.st - 1, by omega⟩
        have hgc : ((doP P x (onP s)).2 = 0 → goP P m (doP P x (onP s)).1 = R) ∧ ((doP P x (onP s)).2 ≠ 0 → doP P x (onP s) = R) := by
          rw [hm] at hg
          exact ⟨fun h0 => by rw [← hg, goP_step hxs h0], fun h0 => by rw [← hg, goP_stop hxs h0]⟩
        obtain ⟨xa, xo, xb, xc, xm⟩ := x
        simp only at z0 z1 z2 z3 z4
        have HBW : Hid (∀ z, Below wo.heap.size wo z → (z.cell? ⟨b, 519, none⟩ = some (.int .i64 (s.pc : Int)) ∧ z.cell? ⟨b, 520, none⟩ = some (.int .i64 (s.st : Int)) ∧ z.cell? ⟨b, 6, none⟩ = some (.slice (some ⟨g, 0, none⟩) n cp) ∧ z.frozen? ⟨b, 519, none⟩ = false ∧ z.frozen? ⟨b, 520, none⟩ = false)) := fun z hz => ⟨(hz.cell (World.block_lt_of_cell? wo _ c519)).trans c519, (hz.cell (World.block_lt_of_cell? wo _ c520)).trans c520, (hz.cell (World.block_lt_of_cell? wo _ c6)).trans c6, frozen_of_heap (hr.grew hz).blk, frozen_of_heap (hr.grew hz).blk⟩
        have HC5 : Hid (∀ z, Below wo.heap.size wo z → z.cell? ⟨g, s.pc * 5, none⟩ = some (.int .i64 xa) ∧ z.cell? ⟨g, s.pc * 5 + 1, none⟩ = some (.int .i64 xo) ∧ z.cell? ⟨g, s.pc * 5 + 2, none⟩ = some (.int .i64 xb) ∧ z.cell? ⟨g, s.pc * 5 + 3, none⟩ = some (.int .i64 xc) ∧ z.cell? ⟨g, s.pc * 5 + 4, none⟩ = some (.int .i64 xm)) := fun z hz => ⟨(hz.cell (World.block_lt_of_cell? wo _ z0)).trans z0, (hz.cell (World.block_lt_of_cell? wo _ z1)).trans z1, (hz.cell (World.block_lt_of_cell? wo _ z2)).trans z2, (hz.cell (World.block_lt_of_cell? wo _ z3)).trans z3, (hz.cell (World.block_lt_of_cell? wo _ z4)).trans z4⟩
        have HC5' := HC5
        have HC0 := hide c520
        have HRG := hide (fun (z : World) (hz : Below wo.heap.size wo z) => hr.grew hz)
        have HLT : Hid (s.st < F ∧ s.st + 1 ≤ 4096 ∧ s.pc < 512 ∧ m = F - (s.st + 1)) := ⟨by omega, by have := unhide HF; omega, by omega, by omega⟩
        have HGC := hide hgc
        have HXX := hide hXX
        have HO8 := hide ho8
        clear hr hins hlv hlv0 hxs hlt hn hg hF hp hLL hgc hXX hm ho8 hsF z0 z1 z2 z3 z4
        go_wp2
        go_quiet (fail)
        generalize hW2 : wo.drewN _ = W2
        have hb2 : Below wo.heap.size wo W2 := hW2 ▸ Below.drewN (Below.refl _ _) _
        obtain ⟨y519, y520, y6, yf9, yf0⟩ := unhide HBW W2 hb2
        obtain ⟨v519, v520, v6, vf9, vf0⟩ := unhide HBW (W2.alloc (.cells #[.int .i64 0, .int .i64 0, .int .i64 0, .int .i64 0, .int .i64 0] 89)) (hb2.alloc hb2.size _)
        obtain ⟨w519, w520, w6, wf9, wf0⟩ := unhide HBW (W2.alloc (.cells #[.int .i64 xa, .int .i64 xo, .int .i64 xb, .int .i64 xc, .int .i64 xm] 89)) (hb2.alloc hb2.size _)
        have HC5 := unhide HC5 W2 hb2
        obtain ⟨y0, y1, y2, y3, y4⟩ := HC5
        obtain ⟨v0, v1, v2, v3, v4⟩ := unhide HC5' (W2.alloc (.cells #[.int .i64 0, .int .i64 0, .int .i64 0, .int .i64 0, .int .i64 0] 89)) (hb2.alloc hb2.size _)
        have hbW : b < W2.heap.size := World.block_lt_of_cell? W2 _ y519
        obtain ⟨l1, l2, l3, l4⟩ := unhide HLT
        have hp3 : (s.pc : Int) < (n : Int) := hc1
        have hw1 : wrap64 ((s.st : Int) + 1) = ((s.st + 1 : Nat) : Int) := by unfold wrap64; omega
        have hw2 : wrap64 ((s.pc : Int) + 1) = ((s.pc + 1 : Nat) : Int) := by unfold wrap64; omega
        have hR2 := unhide HRG W2 hb2
        have h5 := hR2.store (rC_setSt (unhide HP) (s.st + 1)) hR2.out rfl hR2.rgl
        have h6 := h5.store (rC_setPc (unhide HP) (s.pc + 1)) h5.out rfl h5.rgl
        have HD : Hid (∀ z, (((W2.setCell ⟨b, 520, none⟩ (.int .i64 ((s.st : Int) + 1))).setCell ⟨b, 519, none⟩ (.int .i64 ((s.pc : Int) + 1))).alloc (.cells #[.int .i64 xa, .int .i64 xo, .int .i64 xb, .int .i64 xc, .int .i64 xm] 89)).drew = z → Calls Tryd.prog 50 #[.pointer (some ⟨b, 0, none⟩), .agg #[.int .i64 xa, .int .i64 xo, .int .i64 xb, .int .i64 xc, .int .i64 xm]] z fun e w' => e = .returned (.int .i64 (doP P ⟨xa, xo, xb, xc, xm⟩ (onP s)).2) ∧ ∃ ov', RunIs w0 b E P (doP P ⟨xa, xo, xb, xc, xm⟩ (onP s)).1 ov' w') := fun z hz => by subst hz; exact do_any (h6.grew (below_box _).drew) (unhide HO) (unhide HXX) (unhide HO8)
        have hDst : (doP P ⟨xa, xo, xb, xc, xm⟩ (onP s)).1.st = s.st + 1 := doP_st _ _ _
        have hDo := doP_out P ⟨xa, xo, xb, xc, xm⟩ (onP s) (unhide HO8)
        obtain ⟨D, hD⟩ : ∃ D, doP P ⟨xa, xo, xb, xc, xm⟩ (onP s) = D := ⟨_, rfl⟩
        rw [hD] at HD HGC hDst hDo
        have HDF := hide (And.intro hDst hDo)
        clear hD hDst hDo
        clear hb2 hR2 h5 h6 hW2 l1 l2 l3 l4 v520 vf9 vf0 w6
        go_wp2
        go_region
        by_cases h0 : D.2 = 0
        · have g0 : (D.2 != 0) = false := by simpa using h0
          have HG := hide ((unhide HGC).1 h0)
          go_wp2_with (go_at_call 50; refine (unhide HD _ rfl).mono ?_; rintro e z1 ⟨rfl, hz⟩; have HZ := hide hz; clear hz)
          obtain ⟨ov', hz⟩ := unhide HZ
          obtain ⟨q1, q2⟩ := unhide HDF
          obtain ⟨l1, l2, l3, l4⟩ := unhide HLT
          have c1 : z1.cell? ⟨b, 520, none⟩ = some (.int .i64 (D.1.st : Int)) := (hz.cell _).trans (rC_st (unhide HP))
          have c0 := unhide HC0
          refine ⟨⟨D.1, ov', hz, q2, by omega, ?_⟩, ?_⟩
          · rw [q1, ← l4]; exact unhide HG
          · rw [c1, c0]
            simp only [Option.getD_some, intOf, Int.toNat_natCast]
            omega
        · have g0 : (D.2 != 0) = true := by simpa using h0
          have HG := hide ((unhide HGC).2 h0)
          go_wp2_with (go_at_call 50; refine (unhide HD _ rfl).mono ?_; rintro e z1 ⟨rfl, hz⟩; have HZ := hide hz; clear hz)
          go_ret
          obtain ⟨ov', hz⟩ := unhide HZ
          exact ⟨ov', by rw [← unhide HG]; rfl, by rw [← unhide HG]; exact hz⟩
    · have hgz : goP P (F - s.st) s = (s, 0) := goP_end hlt
      rw [hlv0, hn] at c6
      have hc1 : ¬ (s.pc : Int) < (n : Int) := by omega
      have hc3 : decide ((s.pc : Int) < (n : Int)) = false := decide_eq_false hc1
      have hRes : (R.2 = 0) ∧ R.1 = s := by rw [← hg, hgz]; exact ⟨rfl, rfl⟩
      have HRes := hide hRes
      have HR1 := hide hr
      clear hr hins hlv hlv0 hlt hn hg hgz hRes hp hLL ho8 hsF
      go_wp2
      go_quiet (fail)
      go_wp2
      go_ret
      obtain ⟨q1, q2⟩ := unhide HRes
      exact ⟨ov1, by rw [q1]; rfl, by rw [q2]; exact (unhide HR1).drewN _⟩
end Go.Proofs.YtldapckooohigaaDoor
