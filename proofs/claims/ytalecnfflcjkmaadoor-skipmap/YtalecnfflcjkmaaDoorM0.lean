/- A skip list in memory: its own struct, its nodes, the head; what is kept beside it. -/
import Derived.Test.YtalecnfflcjkmaaDoorP0
import Derived.WalkKit
import Derived.Laws.AppendOwnNone
import Derived.Laws.IdiomStrings
namespace Go.Proofs.YtalecnfflcjkmaaDoor
open Go.RowKit
set_option maxRecDepth 100000

/-- All blocks below N but those of S are as they were. -/
structure Upd (S : Nat → Prop) (N : Nat) (w w' : World) : Prop where
  os : w'.os = w.os
  tape : w'.tape = w.tape
  output : w'.output = w.output
  size : w.heap.size ≤ w'.heap.size
  block : ∀ k, k < N → ¬ S k → w'.heap[k]? = w.heap[k]?

theorem Upd.refl (S : Nat → Prop) (N : Nat) (w : World) : Upd S N w w := ⟨rfl, rfl, rfl, Nat.le_refl _, fun _ _ _ => rfl⟩
theorem Upd.trans {S : Nat → Prop} {N : Nat} {a b c : World} (h : Upd S N a b) (k : Upd S N b c) : Upd S N a c :=
  ⟨k.os.trans h.os, k.tape.trans h.tape, k.output.trans h.output, Nat.le_trans h.size k.size, fun i hi hs => (k.block i hi hs).trans (h.block i hi hs)⟩
theorem Upd.mono {S S' : Nat → Prop} {N N' : Nat} {w w' : World} (h : Upd S N w w') (hN : N' ≤ N) (hS : ∀ k, k < N' → S k → S' k) : Upd S' N' w w' :=
  ⟨h.os, h.tape, h.output, h.size, fun k hk hs => h.block k (by omega) (fun c => hs (hS k hk c))⟩
theorem Upd.less {S : Nat → Prop} {N N' : Nat} {w w' : World} (h : Upd S N w w') (hN : N' ≤ N) : Upd S N' w w' := h.mono hN fun _ _ c => c
theorem Upd.drew {S : Nat → Prop} {N : Nat} {a w : World} (h : Upd S N a w) : Upd S N a w.drew := ⟨h.os, h.tape, h.output, h.size, h.block⟩
theorem Upd.alloc {S : Nat → Prop} {N : Nat} {a w : World} (h : Upd S N a w) (hN : N ≤ w.heap.size) (o : Obj) : Upd S N a (w.alloc o) :=
  h.trans ⟨rfl, rfl, rfl, by simp, fun k hk _ => Below.heap_alloc _ _ _ (by omega)⟩
theorem Upd.setCell {S : Nat → Prop} {N : Nat} {a w : World} (h : Upd S N a w) {p : Addr} (hp : S p.block ∨ N ≤ p.block) (u : Value) : Upd S N a (w.setCell p u) :=
  h.trans ⟨rfl, rfl, rfl, by simp [World.setCell], fun k hk hs => Below.heap_setCell _ _ _ _ (by rintro rfl; rcases hp with hp | hp; exact hs hp; omega)⟩
theorem Upd.of {S : Nat → Prop} {B : Nat} {w w' : World} (h : Below B w w') : Upd S B w w' := ⟨h.os, h.tape, h.output, h.size, fun k hk _ => h.block k hk⟩
theorem Upd.below {S : Nat → Prop} {N B : Nat} {w w' : World} (h : Upd S N w w') (hB : B ≤ N) (hS : ∀ k, k < B → ¬ S k) : Below B w w' := ⟨h.os, h.tape, h.output, h.size, fun k hk => h.block k (by omega) (hS k hk)⟩
theorem Upd.cell {S : Nat → Prop} {N : Nat} {w w' : World} (h : Upd S N w w') {p : Addr} (hp : p.block < N) (hs : ¬ S p.block) : w'.cell? p = w.cell? p := World.cell?_of_block (w := w) (h.block p.block hp hs)
theorem Upd.frozen {S : Nat → Prop} {N : Nat} {w w' : World} (h : Upd S N w w') {p : Addr} (hp : p.block < N) (hs : ¬ S p.block) : w'.frozen? p = w.frozen? p := World.frozen?_of_block (w := w) (h.block p.block hp hs)

theorem addr_ne {b b' o o' : Nat} (h : b ≠ b' ∨ o ≠ o') : (⟨b, o, none⟩ : Addr) ≠ ⟨b', o', none⟩ := by
  intro e; simp only [Addr.mk.injEq, and_true] at e; omega
theorem cs_other {w : World} {a b : Addr} {v : Value} (h : a ≠ b) : (w.setCell a v).cell? b = w.cell? b := World.cell?_setCell_other w a b v h
theorem cs_same {w : World} {a : Addr} {v u : Value} (h : w.cell? a = some u) : (w.setCell a v).cell? a = some v := World.cell?_setCell_same w a v h


theorem frozen_of_heap {w : World} {b o : Nat} {cs : Array Value} {T : TypeId} (h : w.heap[b]? = some (.cells cs T)) : w.frozen? ⟨b, o, none⟩ = false := by
  simp [World.frozen?, h]

def hdN (hd : Nat) : Nd := ⟨hd, (0, 0), 0, 0, 0⟩
def nodeC (n : Nd) (N : Nat → Value) : Array Value := #[.int .i32 n.k.1, .int .i64 n.k.2, .int .i64 n.v, .int .i64 n.s, .int .i64 n.h, N 0, N 1, N 2, N 3, N 4, N 5, N 6, N 7]
def skC (hd : Nat) (La : Nat → Nat) (many luck : Int) : Array Value := #[PN hd, PN (La 0), PN (La 1), PN (La 2), PN (La 3), PN (La 4), PN (La 5), PN (La 6), PN (La 7), .int .i64 many, .int .u64 luck]
def setN (N : Nat → Nat → Value) (q lev : Nat) (v : Value) : Nat → Nat → Value := fun p l => if p = q ∧ l = lev then v else N p l
def setF (La : Nat → Nat) (lev v : Nat) : Nat → Nat := fun l => if l = lev then v else La l

theorem upto8 {P : Nat → Prop} (h0 : P 0) (h1 : P 1) (h2 : P 2) (h3 : P 3) (h4 : P 4) (h5 : P 5) (h6 : P 6) (h7 : P 7) {lev : Nat} (h : lev < 8) : P lev := by
  match lev, h with
  | 0, _ => exact h0
  | 1, _ => exact h1
  | 2, _ => exact h2
  | 3, _ => exact h3
  | 4, _ => exact h4
  | 5, _ => exact h5
  | 6, _ => exact h6
  | 7, _ => exact h7
  | k + 8, h => omega
theorem nodeC_next (n : Nd) (N : Nat → Value) {lev : Nat} (h : lev < 8) : (nodeC n N)[5 + lev]? = some (N lev) := by
  refine upto8 (P := fun lev => (nodeC n N)[5 + lev]? = some (N lev)) ?_ ?_ ?_ ?_ ?_ ?_ ?_ ?_ h <;> rfl
theorem skC_last (hd : Nat) (La : Nat → Nat) (many luck : Int) {lev : Nat} (h : lev < 8) : (skC hd La many luck)[1 + lev]? = some (PN (La lev)) := by
  refine upto8 (P := fun lev => (skC hd La many luck)[1 + lev]? = some (PN (La lev))) ?_ ?_ ?_ ?_ ?_ ?_ ?_ ?_ h <;> rfl
theorem nodeC_set (n : Nd) (N : Nat → Value) {lev : Nat} (h : lev < 8) (v : Value) : (nodeC n N).setIfInBounds (5 + lev) v = nodeC n (fun l => if l = lev then v else N l) := by
  refine upto8 (P := fun lev => (nodeC n N).setIfInBounds (5 + lev) v = nodeC n (fun l => if l = lev then v else N l)) ?_ ?_ ?_ ?_ ?_ ?_ ?_ ?_ h <;> simp [nodeC]
theorem skC_setLast (hd : Nat) (La : Nat → Nat) (many luck : Int) {lev : Nat} (h : lev < 8) (v : Nat) : (skC hd La many luck).setIfInBounds (1 + lev) (PN v) = skC hd (setF La lev v) many luck := by
  refine upto8 (P := fun lev => (skC hd La many luck).setIfInBounds (1 + lev) (PN v) = skC hd (setF La lev v) many luck) ?_ ?_ ?_ ?_ ?_ ?_ ?_ ?_ h <;> simp [skC, setF]
theorem skC_setMany (hd : Nat) (La : Nat → Nat) (many luck v : Int) : (skC hd La many luck).setIfInBounds 9 (.int .i64 v) = skC hd La v luck := by simp [skC]
theorem skC_setLuck (hd : Nat) (La : Nat → Nat) (many luck v : Int) : (skC hd La many luck).setIfInBounds 10 (.int .u64 v) = skC hd La many v := by simp [skC]

/-- The cells of a skip list. -/
structure SkM (w : World) (sb hd : Nat) (L : List Nd) (N : Nat → Nat → Value) (La : Nat → Nat) (many luck : Int) : Prop where
  sk : w.heap[sb]? = some (.cells (skC hd La many luck) 75)
  head : w.heap[hd]? = some (.cells (nodeC (hdN hd) (N hd)) 85)
  node : ∀ n ∈ L, w.heap[n.p]? = some (.cells (nodeC n (N n.p)) 85)
/-- The blocks of a skip list. -/
def Bl (sb hd : Nat) (L : List Nd) (k : Nat) : Prop := k = sb ∨ k = hd ∨ ∃ n ∈ L, n.p = k
/-- The head, or a node. -/
def On (hd : Nat) (L : List Nd) (q : Nat) : Prop := q = hd ∨ ∃ n ∈ L, n.p = q
theorem lstP_on (hd lev : Nat) {A B : List Nd} : On hd (A ++ B) (lstP hd lev A) := by
  rcases lstP_mem hd lev A with e | ⟨n, hn, e, _⟩
  · exact .inl e
  · exact .inr ⟨n, List.mem_append_left _ hn, e⟩
section
variable {w : World} {sb hd : Nat} {L : List Nd} {N : Nat → Nat → Value} {La : Nat → Nat} {many luck : Int}
theorem SkM.on (h : SkM w sb hd L N La many luck) {q : Nat} (hq : On hd L q) : ∃ n, n.p = q ∧ w.heap[q]? = some (.cells (nodeC n (N q)) 85) := by
  rcases hq with rfl | ⟨n, hn, rfl⟩
  · exact ⟨_, rfl, h.head⟩
  · exact ⟨n, rfl, h.node n hn⟩
theorem SkM.ne (h : SkM w sb hd L N La many luck) {q : Nat} (hq : On hd L q) : q ≠ sb := fun e => by
  obtain ⟨n, _, hh⟩ := h.on hq
  rw [e, h.sk] at hh
  simp at hh
theorem SkM.next (h : SkM w sb hd L N La many luck) {q lev : Nat} (hq : On hd L q) (hl : lev < 8) : w.cell? ⟨q, 5 + lev, none⟩ = some (N q lev) := by
  obtain ⟨n, _, hh⟩ := h.on hq
  rw [cell_at hh, nodeC_next _ _ hl]
theorem SkM.last (h : SkM w sb hd L N La many luck) {lev : Nat} (hl : lev < 8) : w.cell? ⟨sb, 1 + lev, none⟩ = some (PN (La lev)) := by rw [cell_at h.sk, skC_last _ _ _ _ hl]
theorem SkM.frozenN (h : SkM w sb hd L N La many luck) {q o : Nat} (hq : On hd L q) : w.frozen? ⟨q, o, none⟩ = false := by
  obtain ⟨n, _, hh⟩ := h.on hq
  exact frozen_of_heap hh
theorem SkM.frozenS (h : SkM w sb hd L N La many luck) {o : Nat} : w.frozen? ⟨sb, o, none⟩ = false := frozen_of_heap h.sk
theorem SkM.lt (h : SkM w sb hd L N La many luck) {k : Nat} (hk : Bl sb hd L k) : k < w.heap.size := by
  rcases hk with rfl | rfl | ⟨n, hn, rfl⟩
  · exact (Array.getElem?_eq_some_iff.1 h.sk).1
  · exact (Array.getElem?_eq_some_iff.1 h.head).1
  · exact (Array.getElem?_eq_some_iff.1 (h.node n hn)).1
theorem SkM.keep (h : SkM w sb hd L N La many luck) {w' : World} (hk : ∀ k, Bl sb hd L k → w'.heap[k]? = w.heap[k]?) : SkM w' sb hd L N La many luck :=
  ⟨(hk _ (.inl rfl)).trans h.sk, (hk _ (.inr (.inl rfl))).trans h.head, fun n hn => (hk _ (.inr (.inr ⟨n, hn, rfl⟩))).trans (h.node n hn)⟩
theorem SkM.below (h : SkM w sb hd L N La many luck) {w' : World} (hb : Below w.heap.size w w') : SkM w' sb hd L N La many luck := h.keep fun k hk => hb.block k (h.lt hk)
theorem SkM.setNext (h : SkM w sb hd L N La many luck) (_ha : Apart hd L) {q lev : Nat} (hq : On hd L q) (hl : lev < 8) (v : Value) : SkM (w.setCell ⟨q, 5 + lev, none⟩ v) sb hd L (setN N q lev v) La many luck := by
  have hne := h.ne hq
  refine ⟨?_, ?_, fun n hn => ?_⟩
  · rw [Below.heap_setCell _ _ _ _ (show sb ≠ q from fun e => hne e.symm)]; exact h.sk
  · by_cases c : hd = q
    · subst c
      rw [heap_setCell_same w hd (5 + lev) _ 85 v h.head, nodeC_set _ _ hl]
      rw [show setN N hd lev v hd = fun l => if l = lev then v else N hd l from by funext l; simp [setN]]
    · rw [Below.heap_setCell _ _ _ _ (show hd ≠ q from c), h.head]
      have : setN N q lev v hd = N hd := by funext l; simp [setN, c]
      rw [this]
  · by_cases c : n.p = q
    · subst c
      rw [heap_setCell_same w n.p (5 + lev) _ 85 v (h.node n hn), nodeC_set _ _ hl]
      rw [show setN N n.p lev v n.p = fun l => if l = lev then v else N n.p l from by funext l; simp [setN]]
    · rw [Below.heap_setCell _ _ _ _ (show n.p ≠ q from c), h.node n hn]
      have : setN N q lev v n.p = N n.p := by funext l; simp [setN, c]
      rw [this]
theorem SkM.setLast (h : SkM w sb hd L N La many luck) {lev : Nat} (hl : lev < 8) (v : Nat) : SkM (w.setCell ⟨sb, 1 + lev, none⟩ (PN v)) sb hd L N (setF La lev v) many luck := by
  refine ⟨?_, ?_, fun n hn => ?_⟩
  · rw [heap_setCell_same w sb (1 + lev) _ 75 _ h.sk, skC_setLast _ _ _ _ hl]
  · rw [Below.heap_setCell _ _ _ _ (show hd ≠ sb from h.ne (.inl rfl))]; exact h.head
  · rw [Below.heap_setCell _ _ _ _ (show n.p ≠ sb from h.ne (.inr ⟨n, hn, rfl⟩))]; exact h.node n hn
theorem SkM.setMany (h : SkM w sb hd L N La many luck) (v : Int) : SkM (w.setCell ⟨sb, 9, none⟩ (.int .i64 v)) sb hd L N La v luck := by
  refine ⟨?_, ?_, fun n hn => ?_⟩
  · rw [heap_setCell_same w sb 9 _ 75 _ h.sk, skC_setMany]
  · rw [Below.heap_setCell _ _ _ _ (show hd ≠ sb from h.ne (.inl rfl))]; exact h.head
  · rw [Below.heap_setCell _ _ _ _ (show n.p ≠ sb from h.ne (.inr ⟨n, hn, rfl⟩))]; exact h.node n hn
theorem SkM.setLuck (h : SkM w sb hd L N La many luck) (v : Int) : SkM (w.setCell ⟨sb, 10, none⟩ (.int .u64 v)) sb hd L N La many v := by
  refine ⟨?_, ?_, fun n hn => ?_⟩
  · rw [heap_setCell_same w sb 10 _ 75 _ h.sk, skC_setLuck]
  · rw [Below.heap_setCell _ _ _ _ (show hd ≠ sb from h.ne (.inl rfl))]; exact h.head
  · rw [Below.heap_setCell _ _ _ _ (show n.p ≠ sb from h.ne (.inr ⟨n, hn, rfl⟩))]; exact h.node n hn
end

/-- What a node may hold. -/
structure OkN (n : Nd) : Prop where
  t : -2147483648 ≤ n.k.1 ∧ n.k.1 ≤ 2147483647
  r : -9223372036854775808 ≤ n.k.2 ∧ n.k.2 ≤ 9223372036854775807
  v : -9223372036854775808 ≤ n.v ∧ n.v ≤ 9223372036854775807
  s : 0 ≤ n.s ∧ n.s ≤ 1099511627776
  h : 1 ≤ n.h ∧ n.h ≤ 8

/-- A store in memory: its keys rise, each stands on its levels; all of it lies from b0 on. -/
structure Sk (w : World) (b0 sb hd : Nat) (L : List Nd) (luck : Int) : Prop where
  mem : ∃ N, SkM w sb hd L N (fun lev => lstP hd lev L) L.length luck ∧ ∀ lev, lev < 8 → Lk N lev hd L
  rise : Rising L
  apart : Apart hd L
  ok : ∀ n ∈ L, OkN n
  most : L.length ≤ 1048576
  from_ : ∀ k, Bl sb hd L k → b0 ≤ k
  lk : 0 ≤ luck ∧ luck < 18446744073709551616
theorem Sk.lt {w : World} {b0 sb hd : Nat} {L : List Nd} {luck : Int} (h : Sk w b0 sb hd L luck) {k : Nat} (hk : Bl sb hd L k) : k < w.heap.size := by
  obtain ⟨N, hm, _⟩ := h.mem
  exact hm.lt hk
theorem Sk.keep {w w' : World} {b0 sb hd : Nat} {L : List Nd} {luck : Int} (h : Sk w b0 sb hd L luck) (hk : ∀ k, Bl sb hd L k → w'.heap[k]? = w.heap[k]?) : Sk w' b0 sb hd L luck := by
  obtain ⟨N, hm, hl⟩ := h.mem
  exact ⟨⟨N, hm.keep hk, hl⟩, h.rise, h.apart, h.ok, h.most, h.from_, h.lk⟩
theorem Sk.below {w w' : World} {b0 sb hd : Nat} {L : List Nd} {luck : Int} (h : Sk w b0 sb hd L luck) (hb : Below w.heap.size w w') : Sk w' b0 sb hd L luck := h.keep fun _ hk => hb.block _ (h.lt hk)
theorem Sk.upd {w w' : World} {b0 sb hd : Nat} {L : List Nd} {luck : Int} {S : Nat → Prop} (h : Sk w b0 sb hd L luck) (hb : Upd S w.heap.size w w') (hS : ∀ k, Bl sb hd L k → ¬ S k) : Sk w' b0 sb hd L luck := h.keep fun k hk => hb.block k (h.lt hk) (hS k hk)
end Go.Proofs.YtalecnfflcjkmaaDoor
