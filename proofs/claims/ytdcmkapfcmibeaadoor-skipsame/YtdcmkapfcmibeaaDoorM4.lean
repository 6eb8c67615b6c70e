/- search: from the highest level down. -/
import Derived.Test.YtdcmkapfcmibeaaDoorMU
import Derived.Laws.Rows
namespace Go.Proofs.YtdcmkapfcmibeaaDoor
open Go.RowKit Go.Shelf
attribute [local go_sem] Oper.semAt_some
set_option maxRecDepth 100000

theorem cell_old {w : World} {p : Addr} {v : Value} (h : w.cell? p = some v) {o : Obj} : (w.alloc o).cell? p = some v := (World.cell?_alloc_lt _ _ _ (World.block_lt_of_cell? w _ h)).trans h
def arr8 (f : Nat → Value) : Array Value := #[f 0, f 1, f 2, f 3, f 4, f 5, f 6, f 7]
theorem arr8_get (f : Nat → Value) {lev : Nat} (h : lev < 8) : (arr8 f)[lev]? = some (f lev) := by
  refine upto8 (P := fun lev => (arr8 f)[lev]? = some (f lev)) ?_ ?_ ?_ ?_ ?_ ?_ ?_ ?_ h <;> rfl
theorem arr8_set (f : Nat → Value) {lev : Nat} (h : lev < 8) (v : Value) : (arr8 f).setIfInBounds lev v = arr8 (fun l => if l = lev then v else f l) := by
  refine upto8 (P := fun lev => (arr8 f).setIfInBounds lev v = arr8 (fun l => if l = lev then v else f l)) ?_ ?_ ?_ ?_ ?_ ?_ ?_ ?_ h <;> simp [arr8]
/-- How many keys a search looks at on a level. -/
def stpAt (T R : List Nd) (lev : Nat) : Nat := (onL lev (T.drop (posL (lev + 1) T))).length + (if onL lev R = [] then 0 else 1)
/-- .. on the i highest levels. -/
def stpU (T R : List Nd) : Nat → Nat
  | 0 => 0
  | i + 1 => stpU T R i + stpAt T R (7 - i)
theorem stpAt_le (T R : List Nd) (lev : Nat) : stpAt T R lev ≤ T.length + 1 := by
  have h1 := List.length_filter_le (fun n : Nd => decide (lev < n.h)) (T.drop (posL (lev + 1) T))
  have h2 : (T.drop (posL (lev + 1) T)).length ≤ T.length := by simp
  have h3 : (onL lev (T.drop (posL (lev + 1) T))).length ≤ T.length := Nat.le_trans h1 h2
  unfold stpAt
  split <;> omega
theorem stpU_le (T R : List Nd) (i : Nat) : stpU T R i ≤ i * (T.length + 1) := by
  induction i with
  | zero => exact Nat.zero_le _
  | succ i ih =>
    have := stpAt_le T R (7 - i)
    rw [stpU, Nat.succ_mul]
    omega
theorem lstP_onL (q lev : Nat) (M : List Nd) : lstP q lev (onL lev M) = lstP q lev M := by
  induction M generalizing q with
  | nil => rfl
  | cons n r ih =>
    by_cases c : lev < n.h
    · have e : onL lev (n :: r) = n :: onL lev r := by simp [onL, c]
      rw [e, lstP, lstP]; exact ih _
    · have e : onL lev (n :: r) = onL lev r := by simp [onL, c]
      rw [e, lstP, if_neg c]; exact ih _
theorem onL_append (lev : Nat) (A B : List Nd) : onL lev (A ++ B) = onL lev A ++ onL lev B := List.filter_append ..
theorem same_cut {p : Nd → Prop} {P Q pre r : List Nd} {x : Nd} (h : pre ++ x :: r = P ++ Q) (hP : ∀ n ∈ P, p n) (hQ : ∀ n ∈ Q, ¬ p n) (hpre : ∀ n ∈ pre, p n) (hx : ¬ p x) : pre = P := by
  induction pre generalizing P with
  | nil =>
    cases P with
    | nil => rfl
    | cons a s => rw [List.nil_append, List.cons_append] at h; injection h with e _; exact absurd (e ▸ hP a List.mem_cons_self) hx
  | cons b s ih =>
    cases P with
    | nil =>
      rw [List.nil_append] at h
      exact absurd (hpre b List.mem_cons_self) (hQ b (by rw [← h]; simp))
    | cons a t =>
      rw [List.cons_append, List.cons_append] at h
      injection h with e1 e2
      rw [e1, ih e2 (fun n hn => hP n (List.mem_cons_of_mem _ hn)) fun n hn => hpre n (List.mem_cons_of_mem _ hn)]

/-- Where a search stands, i levels behind it: its boxes. -/
structure Srch (w : World) (kb rb lb ab cb hd : Nat) (T R : List Nd) (k0 k1 : Int) (i : Nat) (wr : World) : Prop where
  ka : wr.heap[kb]? = some (.cells #[.int .i32 k0, .int .i64 k1] 30)
  ra : wr.heap[rb]? = some (.cells (arr8 fun _ => nilP) 73)
  la : wr.heap[lb]? = some (.cells (arr8 fun lev => if 8 - i ≤ lev then PN (lstP hd lev T) else nilP) 73)
  aa : wr.heap[ab]? = some (.cells #[PN (lstP hd (8 - i) T)] 71)
  ca : wr.heap[cb]? = some (.cells #[.int .i64 (stpU T R i : Nat)] 3)
  bel : Below w.heap.size w wr
theorem box_set {W : World} {B : Nat} {v : Value} {t : TypeId} (v' : Value) (h : W.heap[B]? = some (.cells #[v] t)) : (W.setCell ⟨B, 0, none⟩ v').heap[B]? = some (.cells #[v'] t) := by
  rw [heap_setCell_same W B 0 _ t v' h]; rfl
def TwoB (ab cb : Nat) (k : Nat) : Prop := k = ab ∨ k = cb

theorem setrow8 {w : World} {b : Nat} {f g : Nat → Value} {t : TypeId} (h : w.heap[b]? = some (.cells (arr8 f) t)) : ((((((((w.setCell ⟨b, 0, none⟩ (g 0)).setCell ⟨b, 1, none⟩ (g 1)).setCell ⟨b, 2, none⟩ (g 2)).setCell ⟨b, 3, none⟩ (g 3)).setCell ⟨b, 4, none⟩ (g 4)).setCell ⟨b, 5, none⟩ (g 5)).setCell ⟨b, 6, none⟩ (g 6)).setCell ⟨b, 7, none⟩ (g 7)).heap[b]? = some (.cells (arr8 g) t) := by
  have s0 := heap_setCell_same w b 0 _ t (g 0) h
  have s1 := heap_setCell_same _ b 1 _ t (g 1) s0
  have s2 := heap_setCell_same _ b 2 _ t (g 2) s1
  have s3 := heap_setCell_same _ b 3 _ t (g 3) s2
  have s4 := heap_setCell_same _ b 4 _ t (g 4) s3
  have s5 := heap_setCell_same _ b 5 _ t (g 5) s4
  have s6 := heap_setCell_same _ b 6 _ t (g 6) s5
  have s7 := heap_setCell_same _ b 7 _ t (g 7) s6
  rw [s7]
  simp [arr8]
theorem updrow8 {w : World} {b : Nat} {S : Nat → Prop} {N : Nat} (hS : S b ∨ N ≤ b) (g : Nat → Value) : Upd S N w ((((((((w.setCell ⟨b, 0, none⟩ (g 0)).setCell ⟨b, 1, none⟩ (g 1)).setCell ⟨b, 2, none⟩ (g 2)).setCell ⟨b, 3, none⟩ (g 3)).setCell ⟨b, 4, none⟩ (g 4)).setCell ⟨b, 5, none⟩ (g 5)).setCell ⟨b, 6, none⟩ (g 6)).setCell ⟨b, 7, none⟩ (g 7)) :=
  ((((((((Upd.refl S N w).setCell (p := ⟨b, 0, none⟩) hS _).setCell (p := ⟨b, 1, none⟩) hS _).setCell (p := ⟨b, 2, none⟩) hS _).setCell (p := ⟨b, 3, none⟩) hS _).setCell (p := ⟨b, 4, none⟩) hS _).setCell (p := ⟨b, 5, none⟩) hS _).setCell (p := ⟨b, 6, none⟩) hS _).setCell (p := ⟨b, 7, none⟩) hS _
theorem results_cell_row_tmp {P : Program} {fn : Func} {p u : Tmp} {ty : TypeId} (h : fn.results = #[.cell p ty, .tmp u]) (tmps : Array Value) (w : World) (g : Nat) (t : TypeId) (cs : Array Value) (fr : Nat × Nat) (d : TypeDesc)
    (hp : tmps.getD p undef = .pointer (some ⟨g, 0, none⟩)) (hg : w.heap[g]? = some (.cells cs t fr))
    (hu : P.underlying ty = some d) (hd : (match d with | .struct _ | .array _ _ => true | _ => false) = true) (hi : (P.info? ty).map (·.size) = some cs.size) :
    (results fn tmps).run P w = .ok (.tuple #[.agg cs, tmps.getD u undef]) w := by
  rw [results_cell_tmp h, hp]
  simp [asAddr, run_loadVar_row w g t ty cs fr d hg hu hd hi, Result.andThen]
theorem Grew.upd {S : Nat → Prop} {w w' : World} (h : Grew w w') : Upd S w.heap.size w w' := Upd.of h.below
theorem keepsFrom_upd {S : Nat → Prop} {B : Nat} {W W' : World} (h : Upd S W.heap.size W W') (hS : ∀ k, S k → k < B) : KeepsFrom B W W' :=
  ⟨h.size, fun k o hk ho _ => (h.block k (Array.getElem?_eq_some_iff.1 ho).1 fun c => by have := hS k c; omega).trans ho⟩
theorem keepb_upd {S b : Nat → Prop} {W W' : World} (h : Upd S W.heap.size W W') (hb : ∀ k, b k → k < W.heap.size ∧ ¬ S k) : Keepb b W W' := ⟨h.size, fun k hk => h.block k (hb k hk).1 (hb k hk).2⟩
theorem ownFrom_blk {β : Type} (N k : Nat) (f : β → Obj) (hk : k < N) : OwnFrom N (fun (s : β) (W : World) => W.heap[k]? = some (f s)) := fun s A B row hs hg hr =>
  (hg.block k (Array.getElem?_eq_some_iff.1 hs).1 (fun e => by have := (hr k e.symm).1; omega)).trans hs
theorem ownFrom_pure {β : Type} (N : Nat) (p : β → Prop) : OwnFrom N (fun (s : β) (_ : World) => p s) := fun _ _ _ _ hs _ _ => hs
theorem keepb_t {b : Nat → Prop} {A B C : World} (h : Keepb b A B) (k : Keepb b B C) : Keepb b A C := h.trans k
theorem keepb_put {b : Nat → Prop} {l : Nat} (hb : ¬ b l) (W : World) (o o' : Obj) (_ : W.heap[l]? = some o) (_ : o.isCells = false) : Keepb b W (W.putObj l o') :=
  ⟨by simp [World.putObj], fun k hk => World.putObj_heap_other (by rintro rfl; exact hb hk)⟩
/-- Where a search on one level stands. -/
def LvI (q lev c ab cb N : Nat) (k : Int × Int) (W2 : World) (pre : List Nd) (W : World) : Prop :=
  (((∀ m ∈ pre, ltK m.k k) ∧ W.heap[ab]? = some (.cells #[PN (lstP q lev pre)] 71)) ∧ W.heap[cb]? = some (.cells #[.int .i64 (c + pre.length : Nat)] 3)) ∧ Upd (TwoB ab cb) N W2 W
/-- Where it was left. -/
def LvX (q lev c ab cb N : Nat) (k : Int × Int) (F : List Nd) (W2 : World) (cd : Code) (pre : List Nd) (W : World) : Prop :=
  ∃ p x, ((((cd = .exit 2 ∧ pre = p ++ [x]) ∧ (∀ m ∈ p, ltK m.k k) ∧ ¬ ltK x.k k ∧ OkF F p x) ∧ W.heap[ab]? = some (.cells #[PN (lstP q lev p)] 71)) ∧ W.heap[cb]? = some (.cells #[.int .i64 (c + p.length + 1 : Nat)] 3)) ∧ Upd (TwoB ab cb) N W2 W
theorem lvI_own {q lev c ab cb N : Nat} {k : Int × Int} {W2 : World} (ha : ab < N) (hc : cb < N) (hN : N ≤ W2.heap.size) : OwnFrom N (LvI q lev c ab cb N k W2) :=
  OwnFrom.and (OwnFrom.and (OwnFrom.and (ownFrom_pure N _) (ownFrom_blk N ab _ ha)) (ownFrom_blk N cb _ hc)) (ownFrom_upd hN)
theorem lvX_own {q lev c ab cb N : Nat} {k : Int × Int} {F : List Nd} {W2 : World} (ha : ab < N) (hc : cb < N) (hN : N ≤ W2.heap.size) (cd : Code) : OwnFrom N (LvX q lev c ab cb N k F W2 cd) := by
  rintro s A B row ⟨p, x, hs⟩ hg hr
  exact ⟨p, x, ⟨⟨hs.1.1.1, ownFrom_blk N ab (fun _ : Unit => _) ha () A B row hs.1.1.2 hg hr⟩, ownFrom_blk N cb (fun _ : Unit => _) hc () A B row hs.1.2 hg hr⟩, ownFrom_upd (β := Unit) hN () A B row hs.2 hg hr⟩
theorem Srch.keep {w wr wr' : World} {kb rb lb ab cb hd : Nat} {T R : List Nd} {k0 k1 : Int} {i : Nat} (h : Srch w kb rb lb ab cb hd T R k0 k1 i wr) (hk : kb < rb ∧ rb < lb ∧ lb < ab ∧ ab < cb) (hw : w.heap.size = kb) (hb : Upd (fun k => cb < k) wr.heap.size wr wr') : Srch w kb rb lb ab cb hd T R k0 k1 i wr' := by
  have e : ∀ k o, wr.heap[k]? = some o → k ≤ cb → wr'.heap[k]? = some o := fun k o ho hle => (hb.block k (Array.getElem?_eq_some_iff.1 ho).1 (by omega)).trans ho
  refine ⟨e _ _ h.ka (by omega), e _ _ h.ra (by omega), e _ _ h.la (by omega), e _ _ h.aa (by omega), e _ _ h.ca (by omega), h.bel.trans ⟨hb.os, hb.tape, hb.output, hb.size, fun k hk' => hb.block k ?_ (by omega)⟩⟩
  have := h.bel.size; omega

theorem lv_next {w wr W2 W : World} {kb rb lb ab cb hd bx D : Nat} {T R : List Nd} {k0 k1 : Int} {i lev : Nat} {ds : List Deferred} (hS : Srch w kb rb lb ab cb hd T R k0 k1 i wr) (e7 : 8 - (i + 1) = lev) (hl8 : lev < 8) (hk : w.heap.size = kb ∧ kb + 1 = rb ∧ rb + 1 = lb ∧ lb + 1 = ab ∧ ab + 1 = cb) (hbx : wr.heap.size = bx) (hs2 : W2.heap.size = bx + 2) (hcs : cb < wr.heap.size)
    (hB2 : Below wr.heap.size wr W2) (hMk : Marks ds wr) (hmk : ∀ k, isMark ds k → cb < k) (ha : W.heap[ab]? = some (.cells #[PN (lstP hd lev T)] 71)) (hc : W.heap[cb]? = some (.cells #[.int .i64 (stpU T R (i + 1) : Nat)] 3)) (hU : Upd (TwoB ab cb) (bx + 2) W2 W) (hD : W2.heap.size ≤ D) (hK : W.heap[D]? = some (.deferred (some []))) :
    Srch w kb rb lb ab cb hd T R k0 k1 (i + 1) (W.setCell ⟨lb, lev, none⟩ (PN (lstP hd lev T))) ∧ Marks ({ target := .collected D, args := #[] } :: ds) (W.setCell ⟨lb, lev, none⟩ (PN (lstP hd lev T))) ∧ cb < (W.setCell ⟨lb, lev, none⟩ (PN (lstP hd lev T))).heap.size ∧ (∀ k, isMark ({ target := .collected D, args := #[] } :: ds) k → cb < k) ∧ (∃ u, W.cell? ⟨lb, lev, none⟩ = some u) ∧ W.frozen? ⟨lb, lev, none⟩ = false := by
  have up : ∀ k o, wr.heap[k]? = some o → k ≠ ab → k ≠ cb → W.heap[k]? = some o := fun k o ho h1 h2 => by
    have hlt := (Array.getElem?_eq_some_iff.1 ho).1
    exact (hU.block k (by omega) (by unfold TwoB; omega)).trans ((hB2.block k hlt).trans ho)
  have hsz : W2.heap.size ≤ W.heap.size := hU.size
  have sizeW : (W.setCell ⟨lb, lev, none⟩ (PN (lstP hd lev T))).heap.size = W.heap.size := by simp [World.setCell]
  have hlb := up _ _ hS.la (by omega) (by omega)
  have hszw := hS.bel.size
  have oth : ∀ k, k ≠ lb → (W.setCell ⟨lb, lev, none⟩ (PN (lstP hd lev T))).heap[k]? = W.heap[k]? := fun k hk => Below.heap_setCell _ _ _ _ hk
  refine ⟨⟨?_, ?_, ?_, ?_, ?_, ?_⟩, ?_, by rw [sizeW]; omega, ?_, ⟨_, (cell_at hlb).trans (arr8_get _ hl8)⟩, frozen_of_heap hlb⟩
  · rw [oth _ (by omega)]; exact up _ _ hS.ka (by omega) (by omega)
  · rw [oth _ (by omega)]; exact up _ _ hS.ra (by omega) (by omega)
  · rw [heap_setCell_same W lb lev _ 73 _ hlb, arr8_set _ hl8]
    have : (fun l => if l = lev then PN (lstP hd lev T) else if 8 - i ≤ l then PN (lstP hd l T) else nilP) = fun l => if 8 - (i + 1) ≤ l then PN (lstP hd l T) else nilP := by
      funext l
      by_cases c : l = lev
      · subst c; rw [if_pos rfl, if_pos (by omega)]
      · rw [if_neg c]
        by_cases d : 8 - i ≤ l
        · rw [if_pos d, if_pos (by omega)]
        · rw [if_neg d, if_neg (by omega)]
    rw [this]
  · rw [oth _ (by omega), e7]; exact ha
  · rw [oth _ (by omega)]; exact hc
  · refine hS.bel.trans ⟨hU.os.trans hB2.os, hU.tape.trans hB2.tape, hU.output.trans hB2.output, by rw [sizeW]; omega, fun k hk' => ?_⟩
    rw [oth _ (by omega), hU.block k (by omega) (by unfold TwoB; omega), hB2.block k (by omega)]
  · have h1 : Marks ds (W.setCell ⟨lb, lev, none⟩ (PN (lstP hd lev T))) := hMk.keep fun k hk' => by
      have hat := hMk.at hk'
      have hlt := hMk.lt hk'
      have := hmk k hk'
      rw [oth _ (by omega), up _ _ hat (by omega) (by omega), hat]
    exact h1.cons (by rw [oth _ (by omega)]; exact hK) fun c => by have := hMk.lt c; omega
  · intro k hk'
    rcases List.mem_cons.1 hk' with e | e
    · simp only [Deferred.mk.injEq, Target.collected.injEq, and_true] at e; omega
    · exact hmk k e

set_option maxHeartbeats 2000000 in
theorem search_any {w : World} {b0 sb hd : Nat} {L : List Nd} {luck : Int} (h : Sk w b0 sb hd L luck) (k0 k1 : Int) :
    Calls Tryd.prog 62 #[PN sb, .agg #[.int .i32 k0, .int .i64 k1]] w fun e w' => e = .returned (.tuple #[.agg (arr8 fun lev => PN (lstP hd lev (lo (k0, k1) L))), .int .i64 (stpU (lo (k0, k1) L) (hi (k0, k1) L) 8 : Nat)]) ∧ Below w.heap.size w w' := by
  obtain ⟨N, hm, hlk⟩ := h.mem
  have hsplit := h.rise.split (k0, k1)
  have hT : ∀ n ∈ lo (k0, k1) L, n ∈ L ∧ ltK n.k (k0, k1) := fun n hn => lo_below hn
  have hR : ∀ n ∈ hi (k0, k1) L, n ∈ L ∧ ¬ ltK n.k (k0, k1) := fun n hn => hi_above hn
  obtain ⟨T, eT⟩ : ∃ T, lo (k0, k1) L = T := ⟨_, rfl⟩
  obtain ⟨R, eR⟩ : ∃ R, hi (k0, k1) L = R := ⟨_, rfl⟩
  rw [eT] at hT hsplit ⊢
  rw [eR] at hR hsplit ⊢
  clear eT eR
  have hTl : T.length ≤ 1048576 := by have := h.most; rw [hsplit, List.length_append] at this; omega
  have hT8 : ∀ n ∈ T, n.h ≤ 8 := fun n hn => (h.ok n (hT n hn).1).h.2
  have c0 : w.cell? ⟨sb, 0, none⟩ = some (PN hd) := cell_at hm.sk
  have d0 : ∀ o1 o2 o3 : Obj, (((w.alloc o1).alloc o2).alloc o3).cell? ⟨sb, 0, none⟩ = some (PN hd) := fun _ _ _ => cell_old (cell_old (cell_old c0))
  have HSK := hide h
  have HM := hide hm
  have HLK := hide hlk
  have HSP := hide hsplit
  have HT := hide hT
  have HR := hide hR
  clear h hm hlk hsplit hT hR
  refine (callsIn_wide (n := 3)).1 ?_
  refine callsIn_of_wp_marks Tryd.func62 rfl trivial ?_ rfl
  simp only [Tryd.ntmps62, List.size_toArray, List.length_cons, List.length_nil, Nat.reduceAdd, Nat.reduceSub, Array.replicate_succ, Array.replicate_zero, List.push_toArray, List.append_toArray, List.nil_append, List.cons_append]
  gi_wp2
  obtain ⟨W0, hW0⟩ : ∃ W0, ((((w.alloc (.cells #[.int .i32 k0, .int .i64 k1] 30)).alloc (.cells #[nilP, nilP, nilP, nilP, nilP, nilP, nilP, nilP] 73)).alloc (.cells #[nilP, nilP, nilP, nilP, nilP, nilP, nilP, nilP] 73)).alloc (.cells #[PN hd] 71)).alloc (.cells #[.int .i64 0] 3) = W0 := ⟨_, rfl⟩
  obtain ⟨kb, hkb⟩ : ∃ x, w.heap.size = x := ⟨_, rfl⟩
  obtain ⟨rb, hrb⟩ : ∃ x, kb + 1 = x := ⟨_, rfl⟩
  obtain ⟨lb, hlb⟩ : ∃ x, rb + 1 = x := ⟨_, rfl⟩
  obtain ⟨ab, hab⟩ : ∃ x, lb + 1 = x := ⟨_, rfl⟩
  obtain ⟨cb, hcb⟩ : ∃ x, ab + 1 = x := ⟨_, rfl⟩
  have hs0 : W0.heap.size = cb + 1 := by rw [← hW0]; simp; omega
  have S0 : Srch w kb rb lb ab cb hd T R k0 k1 0 W0 := by
    rw [← hW0]
    refine ⟨?_, ?_, ?_, ?_, ?_, ?_⟩
    · rw [Below.heap_alloc _ _ _ (by simp; omega), Below.heap_alloc _ _ _ (by simp; omega), Below.heap_alloc _ _ _ (by simp; omega), Below.heap_alloc _ _ _ (by simp; omega), ← hkb]; exact World.alloc_heap_new _ _
    · rw [Below.heap_alloc _ _ _ (by simp; omega), Below.heap_alloc _ _ _ (by simp; omega), Below.heap_alloc _ _ _ (by simp; omega), ← hrb, ← hkb]
      have := World.alloc_heap_new (w.alloc (.cells #[.int .i32 k0, .int .i64 k1] 30)) (.cells #[nilP, nilP, nilP, nilP, nilP, nilP, nilP, nilP] 73)
      rw [World.size_alloc] at this; exact this
    · rw [Below.heap_alloc _ _ _ (by simp; omega), Below.heap_alloc _ _ _ (by simp; omega), ← hlb, ← hrb, ← hkb]
      have := World.alloc_heap_new ((w.alloc (.cells #[.int .i32 k0, .int .i64 k1] 30)).alloc (.cells #[nilP, nilP, nilP, nilP, nilP, nilP, nilP, nilP] 73)) (.cells #[nilP, nilP, nilP, nilP, nilP, nilP, nilP, nilP] 73)
      rw [World.size_alloc, World.size_alloc] at this; exact this
    · rw [Below.heap_alloc _ _ _ (by simp; omega), ← hab, ← hlb, ← hrb, ← hkb, lstP_low (lev := 8 - 0) hT8]
      have := World.alloc_heap_new (((w.alloc (.cells #[.int .i32 k0, .int .i64 k1] 30)).alloc (.cells #[nilP, nilP, nilP, nilP, nilP, nilP, nilP, nilP] 73)).alloc (.cells #[nilP, nilP, nilP, nilP, nilP, nilP, nilP, nilP] 73)) (.cells #[PN hd] 71)
      rw [World.size_alloc, World.size_alloc, World.size_alloc] at this; exact this
    · rw [← hcb, ← hab, ← hlb, ← hrb, ← hkb]
      have := World.alloc_heap_new ((((w.alloc (.cells #[.int .i32 k0, .int .i64 k1] 30)).alloc (.cells #[nilP, nilP, nilP, nilP, nilP, nilP, nilP, nilP] 73)).alloc (.cells #[nilP, nilP, nilP, nilP, nilP, nilP, nilP, nilP] 73)).alloc (.cells #[PN hd] 71)) (.cells #[.int .i64 0] 3)
      rw [World.size_alloc, World.size_alloc, World.size_alloc, World.size_alloc] at this; exact this
    · exact (((((Below.refl _ _).alloc (Nat.le_refl _) _).alloc (by simp) _).alloc (by simp; omega) _).alloc (by simp; omega) _).alloc (by simp; omega) _
  rw [hW0, hkb, hrb, hlb, hab, hcb]
  clear hW0 d0 c0
  have HS0 := hide S0
  clear S0
  refine wpIn_loop (fun a wr => ∃ (i : Nat) (ds : List Deferred) (u9 u10 u11 u17 u18 u19 u20 u21 u22 u23 u24 u25 u26 u27 u28 u29 u30 u31 u32 u33 u34 u35 u36 u37 u38 u39 u40 u41 : Value), (i ≤ 8 ∧ Srch w kb rb lb ab cb hd T R k0 k1 i wr ∧ Marks ds wr ∧ cb < wr.heap.size ∧ ∀ k, isMark ds k → cb < k) ∧ a = { tmps := #[PN sb, .agg #[.int .i32 k0, .int .i64 k1], undef, PN kb, PN rb, .int .i64 0, PN lb, PN ab, PN cb, u9, u10, u11, PN sb, PN sb, PN sb, PN hd, .int .i64 (i : Nat), u17, u18, u19, u20, u21, u22, u23, u24, u25, u26, u27, u28, u29, u30, u31, u32, u33, u34, u35, u36, u37, u38, u39, u40, u41], defers := ds }) (fun a _ => 8 - (intOf (a.tmps.getD 16 undef)).toNat) ?atStart ?round
  case atStart => exact ⟨0, [], _, _, _, _, _, _, _, _, _, _, _, _, _, _, _, _, _, _, _, _, _, _, _, _, _, _, _, _, ⟨by omega, unhide HS0, Marks.nil _, by omega, fun k hk => (by cases hk)⟩, rfl⟩
  case round =>
    clear HS0 hs0
    rintro a wr ⟨i, ds, u9, u10, u11, u17, u18, u19, u20, u21, u22, u23, u24, u25, u26, u27, u28, u29, u30, u31, u32, u33, u34, u35, u36, u37, u38, u39, u40, u41, ⟨hi8, hS, hMk, hcs, hmk⟩, rfl⟩
    by_cases hlt : i < 8
    · obtain ⟨lev, hlev⟩ : ∃ lev, 7 - i = lev := ⟨_, rfl⟩
      have e8 : 8 - i = lev + 1 := by omega
      have e7 : 8 - (i + 1) = lev := by omega
      have hl8 : lev < 8 := by omega
      have hdb : decide ((i : Int) < 8) = true := by simp; omega
      have hw7 : IntKind.i64.wrap (7 - (i : Int)) = (lev : Int) := by rw [wrap_i64 _ (by omega) (by omega)]; omega
      have aa0 := cell_at (o := 0) hS.aa
      rw [e8] at aa0
      obtain ⟨q, hq⟩ : ∃ q, lstP hd (lev + 1) T = q := ⟨_, rfl⟩
      have aa : wr.cell? ⟨ab, 0, none⟩ = some (PN q) := by rw [aa0, hq]; rfl
      clear aa0
      have HQ := hide hq
      have HS := hide hS
      have HMk := hide hMk
      have HE := hide (And.intro e8 (And.intro e7 (And.intro hlev hlt)))
      clear hS hMk e8 e7 hlev hlt hq
      gi_wp2_with fail
      refine ⟨trivial, ((callsIn_wide).2 (behind_any q lev _)).mono ?_⟩
      rintro e W2' ⟨rfl, rfl⟩
      obtain ⟨W2, hW2⟩ : ∃ W2, (wr.alloc (.cells #[PN q] 71)).alloc (.cells #[.int .i64 lev] 3) = W2 := ⟨_, rfl⟩
      obtain ⟨bx, hbx⟩ : ∃ x, wr.heap.size = x := ⟨_, rfl⟩
      have hs2 : W2.heap.size = bx + 2 := by rw [← hW2, ← hbx]; simp
      have hB2 : Below wr.heap.size wr W2 := by rw [← hW2]; exact ((Below.refl _ _).alloc (Nat.le_refl _) _).alloc (by simp) _
      have x0 : W2.cell? ⟨bx, 0, none⟩ = some (PN q) := by rw [← hW2, ← hbx]; simp [go_sem, World.cell?_alloc_old]
      have x1 : W2.cell? ⟨bx + 1, 0, none⟩ = some (.int .i64 lev) := by rw [← hW2, ← hbx]; simp [go_sem]
      rw [hW2, hbx]
      clear hW2
      gi_wp2
      -- the store, and what follows q on this level
      have hm2 := ((unhide HM).below (unhide HS).bel).below hB2
      have hAp := (unhide HSK).apart
      have hq1 : q = lstP hd lev (T.take (posL (lev + 1) T)) := by rw [posL_last _ _ _ _ (by omega), unhide HQ]
      have hL : L = T.take (posL (lev + 1) T) ++ (T.drop (posL (lev + 1) T) ++ R) := by rw [← List.append_assoc, List.take_append_drop]; exact unhide HSP
      obtain ⟨M, hM⟩ : ∃ M, T.drop (posL (lev + 1) T) = M := ⟨_, rfl⟩
      rw [hM] at hL
      have hLk := unhide HLK lev hl8
      rw [hL] at hLk hAp
      have hrest := hLk.rest
      rw [← hq1] at hrest
      have hMR : ∀ m ∈ M ++ R, m ∈ L := fun m hm => by rw [hL]; exact List.mem_append_right _ hm
      have hMT : ∀ m ∈ M, ltK m.k (k0, k1) := fun m hm => (unhide HT m (by rw [← hM] at hm; exact List.mem_of_mem_drop hm)).2
      have hqon : On hd L q := by rw [hq1, hL]; exact lstP_on _ _
      have hnod : ((M ++ R).map (·.p)).Nodup := (List.nodup_cons.1 (hAp.rest (lev := lev))).2
      have hblt : ∀ m ∈ M ++ R, m.p < w.heap.size := fun m hm => (unhide HM).lt (.inr (.inr ⟨m, hMR m hm, rfl⟩))
      have hszw := (unhide HS).bel.size
      have hlen : (onL lev (M ++ R)).length ≤ 1048576 := by
        have h1 := List.length_filter_le (fun n : Nd => decide (lev < n.h)) (M ++ R)
        have h2 := (unhide HSK).most
        rw [hL, List.length_append] at h2
        show (List.filter _ (M ++ R)).length ≤ _
        omega
      have hcl : stpU T R i ≤ 8 * 1048577 := by
        have h1 := stpU_le T R i
        have h2 : i * (T.length + 1) ≤ 8 * 1048577 := Nat.mul_le_mul hi8 (by omega)
        omega
      obtain ⟨c, hc⟩ : ∃ c, stpU T R i = c := ⟨_, rfl⟩
      have i0 : LvI q lev c ab cb (bx + 2) (k0, k1) W2 [] W2 := by
        refine ⟨⟨⟨fun m hm => (by cases hm), ?_⟩, ?_⟩, Upd.refl _ _ _⟩
        · have := (hB2.block ab (by omega)).trans (unhide HS).aa
          rw [(unhide HE).1, unhide HQ] at this
          exact this
        · have := (hB2.block cb (by omega)).trans (unhide HS).ca
          rw [hc] at this
          exact this
      have hka := (hB2.block kb (by omega)).trans (unhide HS).ka
      rw [hc] at hcl
      refine wpIn_range_ok rfl (by decide) (gf := 84) (lb := #[PN bx, PN (bx + 1)]) rfl trivial (enters_of Tryd.func84 (by kernel_rfl) rfl)
        (behind_seq (3 - 1) bx lev q hl8 (M ++ R) N (fun k => k < bx + 2 ∧ ¬ TwoB ab cb k) W2 hnod hrest x0 x1 (hm2.next hqon hl8) (fun m hm => hm2.next (.inr ⟨m, hMR m hm, rfl⟩) hl8) ⟨by omega, by unfold TwoB; omega⟩ (fun m hm => ⟨by have := hblt m hm; omega, by have := hblt m hm; unfold TwoB; omega⟩))
        keepb_t (fun W o o' => keepb_put (fun c => by have := c.1; omega) W o o') (Below.refl _ _) (fun _ => rfl)
        (LvI q lev c ab cb (bx + 2) (k0, k1) W2) (LvX q lev c ab cb (bx + 2) (k0, k1) (onL lev (M ++ R)) W2)
        (by rw [hs2]; exact lvI_own (by omega) (by omega) (by omega)) (fun cd => by rw [hs2]; exact lvX_own (by omega) (by omega) (by omega) cd) i0
        (fun x => { tmps := #[PN sb, .agg #[.int .i32 k0, .int .i64 k1], undef, PN kb, PN rb, .int .i64 0, PN lb, PN ab, PN cb, .int .i64 (i : Nat), .int .i64 (lev : Nat), PN x.p, PN sb, PN sb, PN sb, PN hd, .int .i64 (i : Nat), .bool true, .int .i64 (i : Nat), .int .i64 (i : Nat), .int .i64 (lev : Nat), PN q, .int .i64 (lev : Nat), It bx, PN x.p, u25, u26, u27, u28, u29, u30, u31, u32, u33, u34, u35, u36, u37, u38, u39, u40, u41], defers := [] }) ?assign ?body ?done ?stop
      case assign =>
        intro l x W K hK
        clear hq1 hc hL hM hrest hLk hAp hm2 hqon hnod hblt hlen hcl i0 hka hMR hMT hw7 hdb aa x0 x1 hB2
        gi_wp2
        exact hK
      case body =>
        intro l pre x W hI hOk
        obtain ⟨⟨⟨hpre, ha⟩, hcc⟩, hU⟩ := hI
        have hx : x ∈ M ++ R := by obtain ⟨r, e⟩ := hOk; exact (onL_high (by rw [← e]; simp)).1
        have hpl : pre.length < 1048576 := by obtain ⟨r, e⟩ := hOk; have := congrArg List.length e; rw [List.length_append, List.length_cons] at this; omega
        have hxb : x.p < w.heap.size := hblt x hx
        have hxn : W.heap[x.p]? = some (.cells (nodeC x (N x.p)) 85) := (hU.block x.p (by omega) (by unfold TwoB; omega)).trans (hm2.node x (hMR x hx))
        have hkW : W.heap[kb]? = some (.cells #[.int .i32 k0, .int .i64 k1] 30) := (hU.block kb (by omega) (by unfold TwoB; omega)).trans hka
        have hsW : bx + 2 ≤ W.heap.size := by have := hU.size; omega
        obtain ⟨d, hd0⟩ : ∃ d : Int, ((c + pre.length : Nat) : Int) = d := ⟨_, rfl⟩
        obtain ⟨d1, hd1⟩ : ∃ d : Int, ((c + pre.length + 1 : Nat) : Int) = d := ⟨_, rfl⟩
        have hwr : IntKind.i64.wrap (d + 1) = d1 := by rw [wrap_i64 _ (by omega) (by omega)]; omega
        rw [hd0] at hcc
        have g0 : W.cell? ⟨cb, 0, none⟩ = some (.int .i64 d) := cell_at hcc
        have g1 : W.frozen? ⟨cb, 0, none⟩ = false := frozen_of_heap hcc
        have HX := hide (And.intro hpre (And.intro hOk hU))
        have HA := hide (And.intro ha hcc)
        have HN := hide (And.intro hxn (And.intro hkW (And.intro hxb hsW)))
        have HD := hide (And.intro hd0 hd1)
        clear hq1 hc hL hM hrest hLk hAp hm2 hqon hnod hblt hlen hcl i0 hka hMR hMT hw7 hdb aa x0 x1 hB2 hpre hOk hU ha hcc hxn hkW hxb hsW hd0 hd1 hpl hx
        gi_wp2
        obtain ⟨Y, hY⟩ : ∃ Y, W.setCell ⟨cb, 0, none⟩ (.int .i64 d1) = Y := ⟨_, rfl⟩
        rw [hY]
        have hcne : x.p ≠ cb := by have := (unhide HN).2.2.1; omega
        have yx : Y.heap[x.p]? = some (.cells (nodeC x (N x.p)) 85) := by rw [← hY, Below.heap_setCell _ _ _ _ hcne]; exact (unhide HN).1
        have yk : Y.heap[kb]? = some (.cells #[.int .i32 k0, .int .i64 k1] 30) := by rw [← hY, Below.heap_setCell _ _ _ _ (show kb ≠ cb by omega)]; exact (unhide HN).2.1
        have ya : Y.heap[ab]? = some (.cells #[PN (lstP q lev pre)] 71) := by rw [← hY, Below.heap_setCell _ _ _ _ (show ab ≠ cb by omega)]; exact (unhide HA).1
        have yc : Y.heap[cb]? = some (.cells #[.int .i64 d1] 3) := by rw [← hY]; exact box_set _ (unhide HA).2
        have yU : Upd (TwoB ab cb) W.heap.size W Y := by rw [← hY]; exact (Upd.refl _ _ _).setCell (p := ⟨cb, 0, none⟩) (.inl (.inr rfl)) _
        have n0 : Y.cell? ⟨x.p, 0, none⟩ = some (.int .i32 x.k.1) := cell_at yx
        have n1 : Y.cell? ⟨x.p, 1, none⟩ = some (.int .i64 x.k.2) := cell_at yx
        have n2 : Y.cell? ⟨kb, 0, none⟩ = some (.int .i32 k0) := cell_at yk
        have n3 : Y.cell? ⟨kb, 1, none⟩ = some (.int .i64 k1) := cell_at yk
        have n4 : Y.cell? ⟨ab, 0, none⟩ = some (PN (lstP q lev pre)) := cell_at ya
        have HY := hide (And.intro ya (And.intro yc yU))
        have HBL := hide (below_any x.k.1 x.k.2 k0 k1)
        clear hY yx yk ya yc yU g0 g1 hwr
        by_cases hlt : ltK x.k (k0, k1)
        · have hdt : decide (ltK (x.k.1, x.k.2) (k0, k1)) = true := decide_eq_true hlt
          rw [hdt] at HBL
          gi_region_with (first
            | (refine ⟨trivial, ?_⟩; refine (((callsIn_wide).2 (unhide HBL _)).inRound l).mono ?_; rintro e w1 ⟨rfl, hg⟩; have HG := hide hg; clear hg)
            | (refine ⟨fun _ h => (by cases h), ?_⟩))
          all_goals
            have hb1 : Below Y.heap.size Y w1 := (Below.refl Y.heap.size Y).drew.trans (unhide HG).below
            have hal : ab < Y.heap.size := World.block_lt_of_cell? Y _ n4
            have za : w1.heap[ab]? = some (.cells #[PN (lstP q lev pre)] 71) := (hb1.block ab hal).trans (unhide HY).1
            have z0 : w1.cell? ⟨ab, 0, none⟩ = some (PN (lstP q lev pre)) := cell_at za
            have z1 : w1.frozen? ⟨ab, 0, none⟩ = false := frozen_of_heap za
            have HZ := hide (And.intro hb1 za)
            clear hb1 za n0 n1 n2 n3 n4 HG HBL hdt
            gi_wp2
            obtain ⟨⟨hb1, za⟩, ya, yc, yU⟩ := And.intro (unhide HZ) (unhide HY)
            obtain ⟨hpre, hOk, hU⟩ := unhide HX
            have hsW := (unhide HN).2.2.2
            have hU' : Upd (TwoB ab cb) W.heap.size W (w1.setCell ⟨ab, 0, none⟩ (PN x.p)) := yU.trans (((Upd.of hb1).less yU.size).setCell (p := ⟨ab, 0, none⟩) (.inl (.inl rfl)) _)
            refine ⟨keepsFrom_upd hU' (by unfold TwoB; omega), keepb_upd hU' (fun k hk => ⟨by have := hk.1; omega, hk.2⟩), ⟨⟨?_, ?_⟩, ?_⟩, hU.trans (hU'.less hsW)⟩
            · intro m hm
              rcases List.mem_append.1 hm with hm | hm
              · exact hpre m hm
              · rw [List.mem_singleton.1 hm]; exact hlt
            · rw [lstP_append, lstP, if_pos (by obtain ⟨r, e⟩ := hOk; exact (onL_high (by rw [← e]; simp)).2)]
              exact box_set _ za
            · rw [Below.heap_setCell _ _ _ _ (show cb ≠ ab by omega), hb1.block cb (Array.getElem?_eq_some_iff.1 yc).1, yc, ← (unhide HD).2, List.length_append]
              rfl
        · have hdt : decide (ltK (x.k.1, x.k.2) (k0, k1)) = false := decide_eq_false hlt
          rw [hdt] at HBL
          gi_region_with (first
            | (refine ⟨trivial, ?_⟩; refine (((callsIn_wide).2 (unhide HBL _)).inRound l).mono ?_; rintro e w1 ⟨rfl, hg⟩; have HG := hide hg; clear hg)
            | (refine ⟨fun _ h => (by cases h), ?_⟩))
          all_goals
            have hb1 : Below Y.heap.size Y w1 := (Below.refl Y.heap.size Y).drew.trans (unhide HG).below
            have hal : ab < Y.heap.size := World.block_lt_of_cell? Y _ n4
            have za : w1.heap[ab]? = some (.cells #[PN (lstP q lev pre)] 71) := (hb1.block ab hal).trans (unhide HY).1
            have HZ := hide (And.intro hb1 za)
            clear hb1 za n0 n1 n2 n3 n4 HG HBL hdt
            gi_wp2
            obtain ⟨⟨hb1, za⟩, ya, yc, yU⟩ := And.intro (unhide HZ) (unhide HY)
            obtain ⟨hpre, hOk, hU⟩ := unhide HX
            have hsW := (unhide HN).2.2.2
            have hU' : Upd (TwoB ab cb) W.heap.size W w1 := yU.trans ((Upd.of hb1).less yU.size)
            refine ⟨keepsFrom_upd hU' (by unfold TwoB; omega), pre, x, ⟨⟨⟨⟨rfl, rfl⟩, hpre, hlt, hOk⟩, za⟩, ?_⟩, hU.trans (hU'.less hsW)⟩
            rw [hb1.block cb (Array.getElem?_eq_some_iff.1 yc).1, yc, ← (unhide HD).2]
      case done =>
        intro D xs W hD hxs hI hK
        have hMl : lstP q lev M = lstP hd lev T := by
          have h1 := lstP_append hd lev (T.take (posL (lev + 1) T)) (T.drop (posL (lev + 1) T))
          rw [List.take_append_drop, ← hq1, hM] at h1
          exact h1.symm
        subst hxs
        obtain ⟨⟨⟨hpre, ha⟩, hcc⟩, hU⟩ := hI
        have hR0 : onL lev R = [] := List.eq_nil_iff_forall_not_mem.2 fun m hm => (unhide HR m (onL_high hm).1).2 (hpre m (by rw [onL_append]; exact List.mem_append_right _ hm))
        have hF : onL lev (M ++ R) = onL lev M := by rw [onL_append, hR0, List.append_nil]
        rw [hF] at ha hcc
        have ha' : W.heap[ab]? = some (.cells #[PN (lstP hd lev T)] 71) := by rw [ha, lstP_onL, hMl]
        have hc' : W.heap[cb]? = some (.cells #[.int .i64 (stpU T R (i + 1) : Nat)] 3) := by
          rw [hcc, stpU, (unhide HE).2.2.1, stpAt, hM, if_pos hR0, hc]; rfl
        have HD0 := hide hF
        clear hF hR0 hMl ha hcc hpre
        obtain ⟨P1, P2, P3, P4, ⟨u0, P5⟩, P6⟩ := lv_next (unhide HS) (unhide HE).2.1 hl8 ⟨hkb, hrb, hlb, hab, hcb⟩ hbx hs2 hcs hB2 (unhide HMk) hmk ha' hc' hU hD hK
        have g0 : W.cell? ⟨ab, 0, none⟩ = some (PN (lstP hd lev T)) := cell_at ha'
        have i0' : (0 : Int) ≤ (lev : Int) := by omega
        have i1' : (lev : Int) < 8 := by omega
        obtain ⟨i1, hi1⟩ : ∃ i1, i + 1 = i1 := ⟨_, rfl⟩
        have hwi : IntKind.i64.wrap ((i : Int) + 1) = (i1 : Int) := by rw [wrap_i64 _ (by omega) (by omega)]; omega
        obtain ⟨z, hz⟩ : ∃ z, lstP hd lev T = z := ⟨_, rfl⟩
        rw [hz] at P1 P2 P3 g0
        rw [hi1] at P1
        have HP := hide (And.intro P1 (And.intro P2 (And.intro P3 P4)))
        have HI := hide hi1
        have hlt := (unhide HE).2.2.2
        have hm1 : 8 - i1 < 8 - i := by omega
        have hm2' : i1 ≤ 8 := by omega
        clear P1 P2 P3 P4 hi1 hlt HD0
        clear hq1 hL hM hrest hLk hAp hm2 hqon hnod hblt hlen hcl i0 hka hMR hMT hw7 hdb aa x0 x1 hB2 hU ha' hc' hz hK hc hs2 hbx HSK HM HLK HSP HT HR HS HMk hmk HE HQ hT8 hTl hszw hi8 hcs hD
        gi_wp2
        obtain ⟨P1, P2, P3, P4⟩ := unhide HP
        exact ⟨⟨i1, _, _, _, _, _, _, _, _, _, _, _, _, _, _, _, _, _, _, _, _, _, _, _, _, _, _, _, _, _, ⟨hm2', P1, P2, P3, P4⟩, rfl⟩, by simpa [intOf] using hm1⟩
      case stop =>
        intro D cd pre W hD hX hK
        have hMl : lstP q lev M = lstP hd lev T := by
          have h1 := lstP_append hd lev (T.take (posL (lev + 1) T)) (T.drop (posL (lev + 1) T))
          rw [List.take_append_drop, ← hq1, hM] at h1
          exact h1.symm
        obtain ⟨p, x, ⟨⟨⟨⟨rfl, rfl⟩, hpre, hx, hOk⟩, ha⟩, hcc⟩, hU⟩ := hX
        have hpM : p = onL lev M := by
          obtain ⟨r, e⟩ := hOk
          rw [onL_append] at e
          exact same_cut (p := fun n : Nd => ltK n.k (k0, k1)) e (fun n hn => hMT n (onL_high hn).1) (fun n hn => (unhide HR n (onL_high hn).1).2) hpre hx
        have hR0 : onL lev R ≠ [] := fun e0 => by
          obtain ⟨r, e⟩ := hOk
          rw [onL_append, e0, hpM] at e
          have := congrArg List.length e
          simp at this
        subst hpM
        have ha' : W.heap[ab]? = some (.cells #[PN (lstP hd lev T)] 71) := by rw [ha, lstP_onL, hMl]
        have hc' : W.heap[cb]? = some (.cells #[.int .i64 (stpU T R (i + 1) : Nat)] 3) := by
          rw [hcc, stpU, (unhide HE).2.2.1, stpAt, hM, if_neg hR0, hc]; rfl
        have HD0 := hide hR0
        clear hR0 hMl ha hcc hpre hOk
        obtain ⟨P1, P2, P3, P4, ⟨u0, P5⟩, P6⟩ := lv_next (unhide HS) (unhide HE).2.1 hl8 ⟨hkb, hrb, hlb, hab, hcb⟩ hbx hs2 hcs hB2 (unhide HMk) hmk ha' hc' hU hD hK
        have g0 : W.cell? ⟨ab, 0, none⟩ = some (PN (lstP hd lev T)) := cell_at ha'
        have i0' : (0 : Int) ≤ (lev : Int) := by omega
        have i1' : (lev : Int) < 8 := by omega
        obtain ⟨i1, hi1⟩ : ∃ i1, i + 1 = i1 := ⟨_, rfl⟩
        have hwi : IntKind.i64.wrap ((i : Int) + 1) = (i1 : Int) := by rw [wrap_i64 _ (by omega) (by omega)]; omega
        obtain ⟨z, hz⟩ : ∃ z, lstP hd lev T = z := ⟨_, rfl⟩
        rw [hz] at P1 P2 P3 g0
        rw [hi1] at P1
        have HP := hide (And.intro P1 (And.intro P2 (And.intro P3 P4)))
        have HI := hide hi1
        have hlt := (unhide HE).2.2.2
        have hm1 : 8 - i1 < 8 - i := by omega
        have hm2' : i1 ≤ 8 := by omega
        clear P1 P2 P3 P4 hi1 hlt HD0
        clear hq1 hL hM hrest hLk hAp hm2 hqon hnod hblt hlen hcl i0 hka hMR hMT hw7 hdb aa x0 x1 hB2 hU ha' hc' hz hK hc hs2 hbx HSK HM HLK HSP HT HR HS HMk hmk HE HQ hT8 hTl hszw hi8 hcs hD
        gi_wp2
        obtain ⟨P1, P2, P3, P4⟩ := unhide HP
        exact ⟨⟨i1, _, _, _, _, _, _, _, _, _, _, _, _, _, _, _, _, _, _, _, _, _, _, _, _, _, _, _, _, _, ⟨hm2', P1, P2, P3, P4⟩, rfl⟩, by simpa [intOf] using hm1⟩
    · obtain rfl : i = 8 := by omega
      clear hlt hi8
      have ca : wr.cell? ⟨cb, 0, none⟩ = some (.int .i64 (stpU T R 8 : Nat)) := cell_at hS.ca
      have la0 : wr.cell? ⟨lb, 0, none⟩ = some (PN (lstP hd 0 T)) := cell_at hS.la
      have la1 : wr.cell? ⟨lb, 1, none⟩ = some (PN (lstP hd 1 T)) := cell_at hS.la
      have la2 : wr.cell? ⟨lb, 2, none⟩ = some (PN (lstP hd 2 T)) := cell_at hS.la
      have la3 : wr.cell? ⟨lb, 3, none⟩ = some (PN (lstP hd 3 T)) := cell_at hS.la
      have la4 : wr.cell? ⟨lb, 4, none⟩ = some (PN (lstP hd 4 T)) := cell_at hS.la
      have la5 : wr.cell? ⟨lb, 5, none⟩ = some (PN (lstP hd 5 T)) := cell_at hS.la
      have la6 : wr.cell? ⟨lb, 6, none⟩ = some (PN (lstP hd 6 T)) := cell_at hS.la
      have la7 : wr.cell? ⟨lb, 7, none⟩ = some (PN (lstP hd 7 T)) := cell_at hS.la
      have ra0 : wr.cell? ⟨rb, 0, none⟩ = some nilP := cell_at hS.ra
      have rf0 : wr.frozen? ⟨rb, 0, none⟩ = false := frozen_of_heap hS.ra
      have ra1 : wr.cell? ⟨rb, 1, none⟩ = some nilP := cell_at hS.ra
      have rf1 : wr.frozen? ⟨rb, 1, none⟩ = false := frozen_of_heap hS.ra
      have ra2 : wr.cell? ⟨rb, 2, none⟩ = some nilP := cell_at hS.ra
      have rf2 : wr.frozen? ⟨rb, 2, none⟩ = false := frozen_of_heap hS.ra
      have ra3 : wr.cell? ⟨rb, 3, none⟩ = some nilP := cell_at hS.ra
      have rf3 : wr.frozen? ⟨rb, 3, none⟩ = false := frozen_of_heap hS.ra
      have ra4 : wr.cell? ⟨rb, 4, none⟩ = some nilP := cell_at hS.ra
      have rf4 : wr.frozen? ⟨rb, 4, none⟩ = false := frozen_of_heap hS.ra
      have ra5 : wr.cell? ⟨rb, 5, none⟩ = some nilP := cell_at hS.ra
      have rf5 : wr.frozen? ⟨rb, 5, none⟩ = false := frozen_of_heap hS.ra
      have ra6 : wr.cell? ⟨rb, 6, none⟩ = some nilP := cell_at hS.ra
      have rf6 : wr.frozen? ⟨rb, 6, none⟩ = false := frozen_of_heap hS.ra
      have ra7 : wr.cell? ⟨rb, 7, none⟩ = some nilP := cell_at hS.ra
      have rf7 : wr.frozen? ⟨rb, 7, none⟩ = false := frozen_of_heap hS.ra
      have HS := hide hS
      have HMk := hide hMk
      clear hS hMk HSK HM HLK HSP HT HR hT8
      gi_wp2
      gi_region
      gi_wp2
      have hrow := setrow8 (g := fun lev => PN (lstP hd lev T)) (unhide HS).ra
      have hup := updrow8 (w := wr) (b := rb) (S := fun k => k = rb) (N := wr.heap.size) (.inl rfl) (fun lev => PN (lstP hd lev T))
      obtain ⟨W1, hW1⟩ : ∃ W1, ((((((((wr.setCell ⟨rb, 0, none⟩ (PN (lstP hd 0 T))).setCell ⟨rb, 1, none⟩ (PN (lstP hd 1 T))).setCell ⟨rb, 2, none⟩ (PN (lstP hd 2 T))).setCell ⟨rb, 3, none⟩ (PN (lstP hd 3 T))).setCell ⟨rb, 4, none⟩ (PN (lstP hd 4 T))).setCell ⟨rb, 5, none⟩ (PN (lstP hd 5 T))).setCell ⟨rb, 6, none⟩ (PN (lstP hd 6 T))).setCell ⟨rb, 7, none⟩ (PN (lstP hd 7 T))) = W1 := ⟨_, rfl⟩
      rw [hW1] at hrow hup ⊢
      clear hW1
      have hnr : ∀ k, isMark ds k → k ≠ rb := fun k hk e => by have := (unhide HMk).at hk; rw [e, (unhide HS).ra] at this; cases this
      refine leave_marks (ds := ds) (w := W1.drew) ((unhide HMk).keep fun k hk => hup.block k ((unhide HMk).lt hk) (hnr k hk)) fun w' hw => ?_
      have hrow' : w'.heap[rb]? = some (.cells (arr8 fun lev => PN (lstP hd lev T)) 73) := (hw.block rb (Array.getElem?_eq_some_iff.1 hrow).1 fun c => hnr rb c rfl).trans hrow
      refine ⟨_, results_cell_row_tmp rfl _ _ rb 73 _ (0, 0) _ rfl hrow' Tryd.underlying73 rfl (by kernel_rfl), rfl, (unhide HS).bel.trans ?_⟩
      have hsz := (unhide HS).bel.size
      refine ⟨hw.os.trans hup.os, hw.tape.trans hup.tape, hw.output.trans hup.output, Nat.le_trans hup.size hw.size, fun k hk => (hw.block k (by have := hup.size; show k < W1.heap.size; omega) fun c => ?_).trans (hup.block k (by omega) (by omega))⟩
      have := hmk k c
      omega
end Go.Proofs.YtdcmkapfcmibeaaDoor
