/- VoteOnce: masks, maps, the group in memory. -/
import Derived.Test.YtpadbbkklmgimaaOA
import Derived.Test.YtpadbbkklmgimaaR4
import Derived.Test.YtpadbbkklmgimaaMem2
import Derived.Maps.OwnSet
import Derived.Maps.OwnOps
import Derived.WideKeyPair
import Derived.WalkArith
namespace Go.Proofs.Ytpadbbkklmgimaa
open Go.RowKit

theorem and_mask (x : Int) (m : Nat) (hm : m < 9223372036854775808) : 0 ≤ bits BinOp.and IntKind.i64 x m ∧ bits BinOp.and IntKind.i64 x m ≤ m := by
  have h1 : ((BitVec.ofInt 64 x) &&& (BitVec.ofInt 64 (m : Int))).toNat ≤ m := by
    rw [BitVec.toNat_and]
    refine Nat.le_trans Nat.and_le_right ?_
    have : (BitVec.ofInt 64 (m : Int)).toNat = m := by
      rw [BitVec.toNat_ofInt]
      have : ((m : Int) % ((2 ^ 64 : Nat) : Int)).toNat = m := by omega
      exact this
    omega
  have h2 : bits BinOp.and IntKind.i64 x m = IntKind.i64.wrap (((BitVec.ofInt 64 x) &&& (BitVec.ofInt 64 (m : Int))).toNat : Int) := rfl
  rw [h2, IntKind.wrap_i64]
  omega

def I64 (x : Int) : Prop := -9223372036854775808 ≤ x ∧ x ≤ 9223372036854775807

/-! ### keys -/
theorem ak51 : WideMaps.ArrKey Try.prog 51 2 2 := ⟨Try.underlying51, by kernel_rfl, by kernel_rfl, by kernel_rfl⟩
theorem key51 : Maps.Keyed Try.prog 51 := Maps.Keyed.of_law ak51.law
theorem types_pos : ∃ m, Try.prog.types.size = m + 1 := ⟨Try.prog.types.size - 1, by kernel_rfl⟩
def kl (a b : Int) : Lit := .string (keyBytes [.int .i64 a, .int .i64 b])
theorem key_mk {a b : Int} (ha : I64 a) (hb : I64 b) : keyOf Try.prog 51 (.agg #[.int .i64 a, .int .i64 b]) = some (kl a b) :=
  WideMaps.keyOf_pair ak51 Try.underlying2 types_pos (WalkArith.wf_i64 ha) (WalkArith.wf_i64 hb)
theorem kl_key (a b : Int) : WideAt.IsKeyLit (kl a b) := trivial
theorem kl_inj {a b c d : Int} (ha : I64 a) (hb : I64 b) (hc : I64 c) (hd : I64 d) (h : kl a b = kl c d) : a = c ∧ b = d := by
  have := key51.inj (key_mk ha hb) (h ▸ key_mk hc hd)
  simpa using this

/-- The map D of what was given is G. -/
def MapG (D : DataW Value) (G : Nat → Int → Option Nat) : Prop := ∀ (p : Nat) (t : Int), p < 5 → I64 t → Maps.has D (kl p t) = (G p t).isSome ∧ ∀ j, G p t = some j → ∀ z, D.atKey (kl p t) z = .lit (.int .i64 j)
theorem MapG.empty : MapG (.map []) (fun _ _ => none) := fun p t _ _ => ⟨by simp [Maps.has], nofun⟩
theorem MapG.put {D : DataW Value} {G : Nat → Int → Option Nat} (h : MapG D G) (hD : Maps.IsMap D) {p : Nat} {t : Int} (hp : p < 5) (ht : I64 t) (j : Nat) : MapG (D.put (kl p t) (.lit (.int .i64 j))) (putG G p t j) := by
  intro p' t' hp' ht'
  by_cases c : p' = p ∧ t' = t
  · obtain ⟨rfl, rfl⟩ := c
    rw [putG_same]
    refine ⟨Maps.has_put_same hD (kl_key _ _) _, fun j' e z => ?_⟩
    obtain rfl := Option.some.inj e
    exact Maps.atKey_put_same hD (kl_key _ _) _ z
  · have hne : kl p' t' ≠ kl p t := fun e => by
      obtain ⟨e1, e2⟩ := kl_inj ⟨by omega, by omega⟩ ht' ⟨by omega, by omega⟩ ht e
      exact c ⟨by omega, e2⟩
    rw [putG_other G j c, Maps.has_put_other hne]
    exact ⟨(h p' t' hp' ht').1, fun j' e z => (Maps.atKey_put_other hne _ z).trans ((h p' t' hp' ht').2 j' e z)⟩

theorem key2 : Maps.Keyed Try.prog 2 := Maps.int_keyed Try.underlying2
theorem key2_mk {a : Int} (ha : I64 a) : keyOf Try.prog 2 (.int .i64 a) = some (.int .i64 a) := Maps.keyOf_int_mk Try.underlying2 (WalkArith.wf_i64 ha)
theorem il_key (a : Int) : WideAt.IsKeyLit (Lit.int .i64 a) := trivial
def MapL (D : DataW Value) (L : Int → Option Nat) : Prop := ∀ t, I64 t → Maps.has D (.int .i64 t) = (L t).isSome ∧ ∀ j, L t = some j → ∀ z, D.atKey (.int .i64 t) z = .lit (.int .i64 j)
theorem MapL.empty : MapL (.map []) (fun _ => none) := fun t _ => ⟨by simp [Maps.has], nofun⟩
theorem MapL.put {D : DataW Value} {L : Int → Option Nat} (h : MapL D L) (hD : Maps.IsMap D) {t : Int} (ht : I64 t) (j : Nat) : MapL (D.put (.int .i64 t) (.lit (.int .i64 j))) (putW L t j) := by
  intro t' ht'
  by_cases c : t' = t
  · subst c
    have e0 : putW L t' j t' = some j := if_pos rfl
    rw [e0]
    refine ⟨Maps.has_put_same hD (il_key _) _, fun j' e z => ?_⟩
    obtain rfl := Option.some.inj e
    exact Maps.atKey_put_same hD (il_key _) _ z
  · have hne : Lit.int .i64 t' ≠ Lit.int .i64 t := fun e => by simp at e; exact c e
    have e0 : putW L t j t' = L t' := if_neg c
    rw [e0, Maps.has_put_other hne]
    exact ⟨(h t' ht').1, fun j' e z => (Maps.atKey_put_other hne _ z).trans ((h t' ht').2 j' e z)⟩

/-! ### the maps' blocks -/
noncomputable abbrev R3 : Value → Option (DataW Value × List MemPlace) := plainElem Try.prog 3
theorem ownsMap_of_block {k : TypeId} {R : Value → Option (DataW Value × List MemPlace)} {w w' : World} {b n : Nat} {D : DataW Value} (h : w.ownsMap Try.prog k R b n D) (e : w'.heap[b]? = w.heap[b]?) : w'.ownsMap Try.prog k R b n D := by
  obtain ⟨es, clock, hb, r⟩ := h
  exact ⟨es, clock, e.trans hb, r⟩
theorem upd_of_grown {w w' : World} {b : Nat} (h : w.grownBy w' (some b)) : Upd (One b) w.heap.size w w' :=
  ⟨h.os, h.tape, h.output, h.size, fun k hk hs => h.block k hk (fun e => hs (show k = b from (Option.some.inj e)))⟩

/-- The group in memory. -/
structure Once (w wr : World) (n ga : Nat) (hp : Nat → Nat) (m1 m2 nn : Nat) (V : Nat → Vt) (G : Nat → Int → Option Nat) (L : Int → Option Nat) : Prop where
  n0 : 1 ≤ n
  n5 : n ≤ 5
  sv : ∀ j, j < n → wr.cell? ⟨ga, j, none⟩ = some (P0 (hp j))
  iv : ∀ j, j < n → IsV wr (hp j) (V j)
  inj : ∀ i j, i < n → j < n → hp i = hp j → i = j
  om1 : ∃ D, wr.ownsMap Try.prog 2 R3 m1 nn D ∧ MapL D L
  om2 : ∃ D, wr.ownsMap Try.prog 51 R3 m2 nn D ∧ MapG D G
  m12 : m1 ≠ m2
  g1 : ga ≠ m1
  g2 : ga ≠ m2
  hg : ∀ j, j < n → hp j ≠ ga
  h1 : ∀ j, j < n → hp j ≠ m1
  h2 : ∀ j, j < n → hp j ≠ m2
  lg : w.heap.size ≤ ga
  l1 : w.heap.size ≤ m1
  l2 : w.heap.size ≤ m2
  lh : ∀ j, j < n → w.heap.size ≤ hp j
  bel : Below w.heap.size w wr

section
variable {w wr w' : World} {n ga m1 m2 nn : Nat} {hp : Nat → Nat} {V : Nat → Vt} {G : Nat → Int → Option Nat} {L : Int → Option Nat}

theorem Once.below (H : Once w wr n ga hp m1 m2 nn V G L) (hb : Below wr.heap.size wr w') : Once w w' n ga hp m1 m2 nn V G L := by
  obtain ⟨D1, o1, r1⟩ := H.om1
  obtain ⟨D2, o2, r2⟩ := H.om2
  exact ⟨H.n0, H.n5, fun j hj => (hb.cell (p := ⟨ga, j, none⟩) (World.block_lt_of_cell? wr _ (H.sv j hj))).trans (H.sv j hj), fun j hj => (H.iv j hj).below hb, H.inj, ⟨D1, ownsMap_of_block o1 (hb.block m1 o1.lt), r1⟩, ⟨D2, ownsMap_of_block o2 (hb.block m2 o2.lt), r2⟩,
    H.m12, H.g1, H.g2, H.hg, H.h1, H.h2, H.lg, H.l1, H.l2, H.lh, H.bel.trans (hb.mono H.bel.size)⟩
theorem Once.more (H : Once w wr n ga hp m1 m2 nn V G L) {k : Nat} (h : nn ≤ k) : Once w wr n ga hp m1 m2 k V G L := by
  obtain ⟨D1, o1, r1⟩ := H.om1
  obtain ⟨D2, o2, r2⟩ := H.om2
  exact ⟨H.n0, H.n5, H.sv, H.iv, H.inj, ⟨D1, o1.mono h, r1⟩, ⟨D2, o2.mono h, r2⟩, H.m12, H.g1, H.g2, H.hg, H.h1, H.h2, H.lg, H.l1, H.l2, H.lh, H.bel⟩
/-- One vote has turned. -/
theorem Once.vote (H : Once w wr n ga hp m1 m2 nn V G L) {i : Nat} (hi : i < n) {X : Vt} (I : IsV w' (hp i) X) (u : Upd (One (hp i)) wr.heap.size wr w') : Once w w' n ga hp m1 m2 nn (setV V i X) G L := by
  obtain ⟨D1, o1, r1⟩ := H.om1
  obtain ⟨D2, o2, r2⟩ := H.om2
  refine ⟨H.n0, H.n5, fun j hj => (u.cell (p := ⟨ga, j, none⟩) (World.block_lt_of_cell? wr _ (H.sv j hj)) (fun e => H.hg i hi e.symm)).trans (H.sv j hj), fun j hj => ?_, H.inj, ⟨D1, ownsMap_of_block o1 (u.block m1 o1.lt (fun e => H.h1 i hi e.symm)), r1⟩, ⟨D2, ownsMap_of_block o2 (u.block m2 o2.lt (fun e => H.h2 i hi e.symm)), r2⟩,
    H.m12, H.g1, H.g2, H.hg, H.h1, H.h2, H.lg, H.l1, H.l2, H.lh, H.bel.trans (u.below H.bel.size (fun k hk e => by have : k = hp i := e; have := H.lh i hi; omega))⟩
  by_cases c : j = i
  · subst c; rw [setV_same]; exact I
  · rw [setV_other _ _ c]; exact (H.iv j hj).upd u (Nat.le_refl _) (fun e => c (H.inj j i hj hi e))
/-- The map of what was given has turned. -/
theorem Once.gives (H : Once w wr n ga hp m1 m2 nn V G L) {k : Nat} {D : DataW Value} {G' : Nat → Int → Option Nat} (o : w'.ownsMap Try.prog 51 R3 m2 k D) (r : MapG D G') (u : Upd (One m2) wr.heap.size wr w') (hk : nn ≤ k) : Once w w' n ga hp m1 m2 k V G' L := by
  obtain ⟨D1, o1, r1⟩ := H.om1
  exact ⟨H.n0, H.n5, fun j hj => (u.cell (p := ⟨ga, j, none⟩) (World.block_lt_of_cell? wr _ (H.sv j hj)) H.g2).trans (H.sv j hj), fun j hj => (H.iv j hj).upd u (Nat.le_refl _) (H.h2 j hj), H.inj, ⟨D1, (ownsMap_of_block o1 (u.block m1 o1.lt H.m12)).mono hk, r1⟩, ⟨D, o, r⟩,
    H.m12, H.g1, H.g2, H.hg, H.h1, H.h2, H.lg, H.l1, H.l2, H.lh, H.bel.trans (u.below H.bel.size (fun k hk e => by have : k = m2 := e; have := H.l2; omega))⟩
/-- The map of leaders has turned. -/
theorem Once.leads (H : Once w wr n ga hp m1 m2 nn V G L) {k : Nat} {D : DataW Value} {L' : Int → Option Nat} (o : w'.ownsMap Try.prog 2 R3 m1 k D) (r : MapL D L') (u : Upd (One m1) wr.heap.size wr w') (hk : nn ≤ k) : Once w w' n ga hp m1 m2 k V G L' := by
  obtain ⟨D2, o2, r2⟩ := H.om2
  exact ⟨H.n0, H.n5, fun j hj => (u.cell (p := ⟨ga, j, none⟩) (World.block_lt_of_cell? wr _ (H.sv j hj)) H.g1).trans (H.sv j hj), fun j hj => (H.iv j hj).upd u (Nat.le_refl _) (H.h1 j hj), H.inj, ⟨D, o, r⟩, ⟨D2, (ownsMap_of_block o2 (u.block m2 o2.lt (Ne.symm H.m12))).mono hk, r2⟩,
    H.m12, H.g1, H.g2, H.hg, H.h1, H.h2, H.lg, H.l1, H.l2, H.lh, H.bel.trans (u.below H.bel.size (fun k hk e => by have : k = m1 := e; have := H.l1; omega))⟩
end

theorem setV_id (V : Nat → Vt) (i : Nat) : setV V i (V i) = V := by funext j; unfold setV; split <;> simp_all

/-! ### the group is made -/
def VB (w : World) (h : Nat) (V : Vt) : Prop := w.heap[h]? = some (.cells #[.int .i64 V.n, .int .i64 V.self, .int .i64 V.term, .int .i64 V.voted, .bool (V.vt 0), .bool (V.vt 1), .bool (V.vt 2), .bool (V.vt 3), .bool (V.vt 4)] 58 (0, 0))

set_option maxHeartbeats 400000 in
theorem new_blk (w : World) (n s : Nat) (h0 : 1 ≤ n) (h1 : n ≤ 5) (h3 : s < n) :
    Calls Try.prog 6 #[.agg #[.int .i64 n, .int .i64 s], .int .i64 0, .int .i64 (-1)] w fun e w' => e = .returned (.tuple #[P0 (w.heap.size + 1), .int .i64 0]) ∧ VB w' (w.heap.size + 1) (Vt.new n s 0 (-1)) ∧ Below w.heap.size w w' := by
  go_enter Try.func6, Try.ntmps6
  go_wp2
  go_ret2
  refine ⟨rfl, ?_, ((Below.refl _ _).alloc (Nat.le_refl _) _).alloc (by simp) _⟩
  have := heap_alloc_new (w.alloc (.cells #[.int .i64 n, .int .i64 s] 23)) (.cells #[.int .i64 n, .int .i64 s, .int .i64 0, .int .i64 (-1), .bool false, .bool false, .bool false, .bool false, .bool false] 58)
  rw [World.size_alloc] at this
  exact this

def ptrs (hp : Nat → Nat) (k : Nat) : List Value := (List.range k).map fun j => P0 (hp j)
theorem ptrs_length (hp : Nat → Nat) (k : Nat) : (ptrs hp k).length = k := by simp [ptrs]
theorem ptrs_succ (hp : Nat → Nat) (k : Nat) : ptrs hp (k + 1) = ptrs hp k ++ [P0 (hp k)] := by simp [ptrs, List.range_succ]
theorem ptrs_congr {hp hp' : Nat → Nat} {k : Nat} (h : ∀ j, j < k → hp j = hp' j) : ptrs hp k = ptrs hp' k := by
  unfold ptrs
  refine List.map_congr_left fun j hj => ?_
  rw [h j (by simpa using hj)]

/-- Where the making stands. -/
def AtB (w : World) (n : Nat) (v c : Value) (wr : World) : Prop := ∃ k : Nat, k ≤ n ∧ c = .int .i64 k ∧ ∃ hp : Nat → Nat, wr.ownsRow w.heap.size 27 1 v k (ptrs hp k) ∧ (∀ j, j < k → VB wr (hp j) (Vt.new n j 0 (-1)) ∧ w.heap.size ≤ hp j) ∧ (∀ i j, i < k → j < k → hp i = hp j → i = j) ∧ Below w.heap.size w wr

theorem Try.info27 : (Try.prog.info? 27).map (fun i => (i.zero, i.size, i.bytes)) = some (some (.pointer none), 1, 8) := by kernel_rfl

/-- One more. -/
theorem AtB.next {w wr w1 w2 : World} {n k : Nat} {v v' : Value} {hp : Nat → Nat} (hk : k < n) (hrow : wr.ownsRow w.heap.size 27 1 v k (ptrs hp k)) (hv : ∀ j, j < k → VB wr (hp j) (Vt.new n j 0 (-1)) ∧ w.heap.size ≤ hp j) (hi : ∀ i j, i < k → j < k → hp i = hp j → i = j) (hB : Below w.heap.size w wr)
    (hb1 : Below wr.heap.size wr w1) (hn : VB w1 (wr.heap.size + 1) (Vt.new n k 0 (-1))) (ho : w2.ownsRow w.heap.size 27 1 v' (k + 1) (ptrs hp k ++ [P0 (wr.heap.size + 1)])) (hg : (w1.alloc (.cells #[P0 (wr.heap.size + 1)] 27)).grownBy w2 v.ownBlock) :
    AtB w n v' (.int .i64 ((k + 1 : Nat) : Int)) w2 := by
  have hal : Below w1.heap.size w1 (w1.alloc (.cells #[P0 (wr.heap.size + 1)] 27)) := (Below.refl _ _).alloc (Nat.le_refl _) _
  have hs1 := hb1.size
  have hrow2 : (w1.alloc (.cells #[P0 (wr.heap.size + 1)] 27)).ownsRow w.heap.size 27 1 v k (ptrs hp k) := own_below hrow (hb1.trans (hal.mono hs1))
  have keep : ∀ (h : Nat) (X : Vt), VB (w1.alloc (.cells #[P0 (wr.heap.size + 1)] 27)) h X → VB w2 h X := fun h X hx => by
    refine (hg.block h (Array.getElem?_eq_some_iff.1 hx).1 (fun e => ?_)).trans hx
    rcases hrow2.2 with ⟨rfl, _⟩ | ⟨g, cap, cur, rfl, _, hgg, _⟩
    · simp [Value.ownBlock] at e
    · simp [Value.ownBlock] at e
      subst e
      have hx2 := hx
      unfold VB at hx2
      rw [hgg] at hx2
      simp at hx2
  have below2 : ∀ (h : Nat) (X : Vt), VB wr h X → VB w2 h X := fun h X hx => keep h X (((hb1.trans (hal.mono hs1)).block h (Array.getElem?_eq_some_iff.1 hx).1).trans hx)
  have hlt : ∀ j, j < k → hp j < wr.heap.size := fun j hj => (Array.getElem?_eq_some_iff.1 (hv j hj).1).1
  refine ⟨k + 1, by omega, rfl, fun j => if j < k then hp j else wr.heap.size + 1, ?_, fun j hj => ?_, fun i j hi' hj' e => ?_, ?_⟩
  · rw [ptrs_succ, ptrs_congr (hp' := hp) (fun j hj => if_pos hj), if_neg (Nat.lt_irrefl _)]; exact ho
  · dsimp only
    by_cases c : j < k
    · rw [if_pos c]; exact ⟨below2 _ _ (hv j c).1, (hv j c).2⟩
    · obtain rfl : j = k := by omega
      rw [if_neg c]
      refine ⟨keep _ _ ((hal.block _ (Array.getElem?_eq_some_iff.1 hn).1).trans hn), ?_⟩
      have := hB.size; omega
  · dsimp only at e
    by_cases c : i < k <;> by_cases d : j < k
    · rw [if_pos c, if_pos d] at e; exact hi i j c d e
    · rw [if_pos c, if_neg d] at e; have := hlt i c; omega
    · rw [if_neg c, if_pos d] at e; have := hlt j d; omega
    · omega
  · have hB1 : Below w.heap.size w w1 := hB.trans (hb1.mono hB.size)
    have hBa := hB1.trans (hal.mono hB1.size)
    exact hBa.trans ((Below.refl _ _).grown hg hBa.size (own_block_le hrow))
end Go.Proofs.Ytpadbbkklmgimaa
