/- FlashSure: what a change leaves of other pages; the map of what was programmed. -/
import Derived.Test.YteehhbgjjamjiaaUJ
import Derived.Test.YteehhbgjjamjiaaOps
import Derived.Maps.OwnSet
import Derived.Maps.OwnOps
import Derived.Maps.RangeWalk
import Derived.WideKeyPair
import Derived.WalkArith
namespace Go.Proofs.Yteehhbgjjamjiaa
open Go.RowKit

/-! ### the flash, in pure terms -/
theorem prog_two (F : Fl) (i j : Int) (zs : List Int) (a b : Nat) (h : F.st a b = 2) : (F.prog i j zs).2.st a b = 2 ∧ (F.prog i j zs).2.bs a b = F.bs a b := by
  by_cases e : (a : Int) = i ∧ (b : Int) = j
  · have : (F.prog i j zs).2 = F := by
      obtain ⟨rfl, rfl⟩ := e
      unfold Fl.prog
      simp only [Int.toNat_natCast]
      rw [if_pos (show F.st a b ≠ 0 by omega)]
      (repeat' split) <;> rfl
    rw [this]
    exact ⟨h, rfl⟩
  · have := prog_other F i j zs a b e
    exact ⟨this.1.trans h, this.2⟩

theorem prog_zero (F : Fl) (i j : Int) (zs : List Int) (h : (F.prog i j zs).1 = 0) :
    F.within i j ∧ zs.length ≤ 256 ∧ F.st i.toNat j.toNat = 0 ∧ (F.prog i j zs).2.st i.toNat j.toNat = 2 ∧ (F.prog i j zs).2.bs i.toNat j.toNat = strOf (pageL zs) := by
  revert h
  unfold Fl.prog
  split
  · intro h; exact absurd h (by simp)
  split
  · intro h; exact absurd h (by simp)
  rename_i hw
  split
  · intro h; exact absurd h (by simp)
  rename_i hl
  split
  · intro h; exact absurd h (by simp)
  rename_i hs
  intro h
  have hc : F.cnt ≠ 1 := by
    intro hc
    simp [Fl.code, hc] at h
  refine ⟨Classical.not_not.1 hw, by omega, Classical.not_not.1 hs, ?_, ?_⟩
  · unfold Fl.changed
    rw [if_neg hc]
    simp [putA, Fl.put, Fl.setSt, Fl.setBs]
  · unfold Fl.changed
    rw [if_neg hc]
    simp [putA, Fl.put, Fl.setSt, Fl.setBs]

def CntOk (F : Fl) : Prop := 0 ≤ F.cnt ∧ F.cnt ≤ 9223372036854775807

theorem changed_cnt (F : Fl) (act : Fl → Int → ByteArray → Fl) (ha : ∀ F s b, (act F s b).cnt = F.cnt) (s : Int) (b : ByteArray) (h : CntOk F) : CntOk (F.changed act s b) := by
  unfold Fl.changed
  split
  · exact ⟨Int.le_refl 0, (by decide : (0 : Int) ≤ 9223372036854775807)⟩
  · unfold CntOk
    rw [ha]
    unfold Fl.burnt
    split
    · exact h
    · obtain ⟨h1, h2⟩ := h
      show 0 ≤ F.cnt - 1 ∧ F.cnt - 1 ≤ _
      omega
theorem prog_cnt (F : Fl) (i j : Int) (zs : List Int) (h : CntOk F) : CntOk (F.prog i j zs).2 := by
  unfold Fl.prog
  (repeat' split) <;> first | exact h | exact changed_cnt F (putA i.toNat j.toNat) (fun _ _ _ => rfl) _ _ h
theorem erase_cnt (F : Fl) (i : Int) (h : CntOk F) : CntOk (F.erase i).2 := by
  unfold Fl.erase
  (repeat' split) <;> first | exact h | exact changed_cnt F (anewA i.toNat) (fun _ _ _ => rfl) _ _ h
theorem fuse_cnt (F : Fl) (c k : Int) (h : CntOk F) (hc : I64 c) : CntOk (F.fuse c k).2 := by
  unfold Fl.fuse
  split
  · exact h
  · split
    · exact h
    · show 0 ≤ c ∧ c ≤ _
      have := hc.2
      omega
theorem fuse_pg (F : Fl) (c k : Int) : (F.fuse c k).2.n = F.n ∧ (F.fuse c k).2.st = F.st ∧ (F.fuse c k).2.bs = F.bs := by
  unfold Fl.fuse
  (repeat' split) <;> exact ⟨rfl, rfl, rfl⟩
theorem crash_cnt (F : Fl) (h : CntOk F) : CntOk F.crash.2 := by
  unfold Fl.crash
  split
  · exact h
  · exact ⟨Int.le_refl 0, (by decide : (0 : Int) ≤ 9223372036854775807)⟩
theorem crash_pg (F : Fl) : F.crash.2.n = F.n ∧ F.crash.2.st = F.st ∧ F.crash.2.bs = F.bs := by
  unfold Fl.crash
  split <;> exact ⟨rfl, rfl, rfl⟩
theorem restart_of (F : Fl) (h : F.down = true) : F.restart = (0, { F with down := false }) := by
  unfold Fl.restart
  rw [if_pos h]

/-- Erase: it is done, or the power went; or nothing has changed. -/
theorem erase_sure (F : Fl) (i : Int) (hd : F.down = false) : ((F.erase i).1 = 0 ∨ (F.erase i).2.down = true) ∨ ((F.erase i).1 ≠ 0 ∧ (F.erase i).2.down = false ∧ (F.erase i).2 = F) := by
  unfold Fl.erase
  rw [if_neg (by simp [hd])]
  split
  · exact .inr ⟨by simp, hd, rfl⟩
  · by_cases hc : F.cnt = 1
    · refine .inl (.inr ?_)
      unfold Fl.changed
      rw [if_pos hc]
      rfl
    · refine .inl (.inl ?_)
      simp [Fl.code, hc]

/-! ### keys -/
theorem ak53 : WideMaps.ArrKey Try.prog 53 3 2 := ⟨Try.underlying53, by kernel_rfl, by kernel_rfl, by kernel_rfl⟩
theorem key53 : Maps.Keyed Try.prog 53 := Maps.Keyed.of_law ak53.law
theorem types_pos : ∃ m, Try.prog.types.size = m + 1 := ⟨Try.prog.types.size - 1, by kernel_rfl⟩
def kl (a b : Int) : Lit := .string (keyBytes [.int .i64 a, .int .i64 b])
theorem key_mk {a b : Int} (ha : I64 a) (hb : I64 b) : keyOf Try.prog 53 (.agg #[.int .i64 a, .int .i64 b]) = some (kl a b) :=
  WideMaps.keyOf_pair ak53 Try.underlying3 types_pos (WalkArith.wf_i64 ha) (WalkArith.wf_i64 hb)
theorem kl_key (a b : Int) : WideAt.IsKeyLit (kl a b) := trivial
theorem kl_inj {a b c d : Int} (ha : I64 a) (hb : I64 b) (hc : I64 c) (hd : I64 d) (h : kl a b = kl c d) : a = c ∧ b = d := by
  have := key53.inj (key_mk ha hb) (h ▸ key_mk hc hd)
  simpa using this
theorem i64_bounds {n : Int} (h : (Lit.int .i64 n).wf = true) : I64 n := by
  simp [Lit.wf, IntKind.min, IntKind.max, IntKind.signed, IntKind.bits] at h
  exact ⟨h.1, by omega⟩
theorem lit_one {m : Nat} {x : Value} {ls : List Lit} (h : Try.prog.keyLits (m + 1) 3 [x] = some ls) : ∃ n, x = .int .i64 n ∧ (Lit.int .i64 n).wf = true ∧ ls = [.int .i64 n] := by
  unfold Program.keyLits at h
  cases x <;> simp [Try.underlying3] at h
  obtain ⟨⟨rfl, hw⟩, rfl⟩ := h
  exact ⟨_, rfl, hw, rfl⟩
set_option maxRecDepth 100000 in
theorem key_inv {v : Value} {l : Lit} (h : keyOf Try.prog 53 v = some l) : ∃ a b, v = .agg #[.int .i64 a, .int .i64 b] ∧ I64 a ∧ I64 b ∧ l = kl a b := by
  have h0 := h
  unfold keyOf at h
  simp only [Try.underlying53] at h
  split at h
  case isFalse => cases h
  case isTrue hf =>
    simp only [Bool.and_eq_true] at hf
    have hf2 := hf.2
    cases v with
    | agg xs =>
      simp only [Value.formed, Try.underlying53, beq_iff_eq] at hf2
      rw [ak53.size] at hf2
      obtain ⟨l2⟩ := xs
      simp only [List.size_toArray] at hf2
      match l2, hf2 with
      | [x, y], _ =>
        obtain ⟨m, hm⟩ := types_pos
        rw [hm] at h
        unfold Program.keyLits at h
        simp only [Try.underlying53, Value.cells] at h
        rw [if_pos (by rw [ak53.size]; rfl), show List.range 2 = [0, 1] from rfl, List.mapM_cons, List.mapM_cons, List.mapM_nil] at h
        simp only [ak53.one, Nat.zero_mul, Nat.one_mul, List.drop_zero, List.take_succ_cons, List.take_zero, List.drop_succ_cons] at h
        cases hx : Try.prog.keyLits (m + 1) 3 [x] with
        | none => simp [hx] at h
        | some lx =>
          cases hy : Try.prog.keyLits (m + 1) 3 [y] with
          | none => simp [hx, hy] at h
          | some ly =>
            obtain ⟨n1, rfl, w1, rfl⟩ := lit_one hx
            obtain ⟨n2, rfl, w2, rfl⟩ := lit_one hy
            simp [hx, hy] at h
            exact ⟨n1, n2, rfl, i64_bounds w1, i64_bounds w2, h.symm⟩
    | _ => simp [Value.formed, Try.underlying53] at hf2

/-! ### the map's elements -/
/-- Slices, as they are. -/
def slR : Value → Option (DataW Value × List MemPlace)
  | .slice a l c => some (.held (.slice a l c), [])
  | _ => none
theorem slR_mk (a : Option Addr) (l c : Nat) : slR (.slice a l c) = some (.held (.slice a l c), []) := rfl
theorem slR_inv {v : Value} {z : DataW Value × List MemPlace} (h : slR v = some z) : ∃ x : Option Addr × Nat × Nat, v = .slice x.1 x.2.1 x.2.2 := by
  cases v <;> simp [slR] at h
  exact ⟨(_, _, _), rfl⟩

/-- All that the map has was programmed, and stands. -/
def Kept (w : World) (Av : Nat → Prop) (F : Fl) (D : DataW Value) : Prop :=
  ∀ a b, I64 a → I64 b → Maps.has D (kl a b) = true → ∃ i j : Nat, a = i ∧ b = j ∧ i < F.n ∧ j < 16 ∧ F.st i j = 2 ∧ ∃ v zs, (∀ z, D.atKey (kl a b) z = .held v) ∧ SeesA Av w v zs ∧ Byt zs ∧ zs.length ≤ 256 ∧ F.bs i j = strOf (pageL zs)

theorem Kept.empty (w : World) (Av : Nat → Prop) (F : Fl) : Kept w Av F (.map []) := by
  intro a b _ _ h
  simp [Maps.has] at h
theorem Kept.upd {w w' : World} {Av S : Nat → Prop} {N : Nat} {F F' : Fl} {D : DataW Value} (h : Kept w Av F D) (hu : Upd S N w w') (hN : w.heap.size ≤ N) (hS : ∀ k, k < w.heap.size → ¬ Av k → ¬ S k)
    (hn : F'.n = F.n) (hp : ∀ a b : Nat, F.st a b = 2 → F'.st a b = 2 ∧ F'.bs a b = F.bs a b) : Kept w' Av F' D := by
  intro a b ha hb hh
  obtain ⟨i, j, rfl, rfl, hi, hj, hs, v, zs, h1, h2, h3, h4, h5⟩ := h a b ha hb hh
  exact ⟨i, j, rfl, rfl, by omega, hj, (hp i j hs).1, v, zs, h1, h2.upd hu hN hS, h3, h4, (hp i j hs).2.trans h5⟩
theorem Kept.put {w : World} {Av : Nat → Prop} {F : Fl} {D : DataW Value} (h : Kept w Av F D) (hD : Maps.IsMap D) {i j : Nat} (hi : i < F.n) (hj : j < 16) (hn : F.n ≤ 1024) (hs : F.st i j = 2) {v : Value} {zs : List Int} (hv : SeesA Av w v zs) (hb : Byt zs) (hl : zs.length ≤ 256) (hbs : F.bs i j = strOf (pageL zs)) :
    Kept w Av F (D.put (kl i j) (.held v)) := by
  intro a b ha hb' hh
  by_cases e : kl a b = kl i j
  · obtain ⟨rfl, rfl⟩ := kl_inj ha hb' ⟨by omega, by omega⟩ ⟨by omega, by omega⟩ e
    exact ⟨i, j, rfl, rfl, hi, hj, hs, v, zs, fun z => Maps.atKey_put_same hD (kl_key _ _) _ z, hv, hb, hl, hbs⟩
  · rw [Maps.has_put_other e] at hh
    obtain ⟨i', j', r1, r2, r3, r4, r5, v', zs', r6, r7⟩ := h a b ha hb' hh
    exact ⟨i', j', r1, r2, r3, r4, r5, v', zs', fun z => (Maps.atKey_put_other e _ z).trans (r6 z), r7⟩

/-- The first k pages of block i are struck. -/
def Struck (D D' : DataW Value) (i : Int) (k : Nat) : Prop :=
  ∀ a b, I64 a → I64 b → Maps.has D' (kl a b) = true → Maps.has D (kl a b) = true ∧ (∀ z, D'.atKey (kl a b) z = D.atKey (kl a b) z) ∧ ¬ (a = i ∧ 0 ≤ b ∧ b < k)
theorem Struck.zero (D : DataW Value) (i : Int) : Struck D D i 0 := fun _ _ _ _ h => ⟨h, fun _ => rfl, by omega⟩
theorem Struck.step {D D' : DataW Value} {i : Int} {k : Nat} (h : Struck D D' i k) (_hi : I64 i) : Struck D (D'.del (kl i k)) i (k + 1) := by
  intro a b ha hb hh
  by_cases e : kl a b = kl i k
  · rw [e, Maps.has_del_same] at hh
    cases hh
  · rw [Maps.has_del_other e] at hh
    obtain ⟨r1, r2, r3⟩ := h a b ha hb hh
    refine ⟨r1, fun z => (Maps.atKey_del_other e z).trans (r2 z), ?_⟩
    rintro ⟨rfl, h0, h1⟩
    by_cases hbk : b = k
    · subst hbk; exact e rfl
    · exact r3 ⟨rfl, h0, by omega⟩
theorem Kept.struck {w : World} {Av : Nat → Prop} {F F' : Fl} {D D' : DataW Value} {i : Int} (h : Kept w Av F D) (hs : Struck D D' i 16) (hn : F'.n = F.n) (hp : ∀ a b : Nat, (a : Int) ≠ i → F'.st a b = F.st a b ∧ F'.bs a b = F.bs a b) : Kept w Av F' D' := by
  intro a b ha hb hh
  obtain ⟨r1, r2, r3⟩ := hs a b ha hb hh
  obtain ⟨i', j', rfl, rfl, hi, hj, hst, v, zs, h1, h2, h3, h4, h5⟩ := h a b ha hb r1
  have hne : (i' : Int) ≠ i := fun e => r3 ⟨e, by omega, by omega⟩
  exact ⟨i', j', rfl, rfl, by omega, hj, (hp i' j' hne).1.trans hst, v, zs, fun z => (r2 z).trans (h1 z), h2, h3, h4, (hp i' j' hne).2.trans h5⟩

/-! ### the map's block -/
theorem ownsMap_of_block {H : Type} {w w' : World} {k : TypeId} {R : Value → Option (DataW H × List MemPlace)} {b n : Nat} {D : DataW H} (h : w.ownsMap Try.prog k R b n D) (e : w'.heap[b]? = w.heap[b]?) : w'.ownsMap Try.prog k R b n D := by
  obtain ⟨es, clock, hb, r⟩ := h
  exact ⟨es, clock, e.trans hb, r⟩
theorem upd_of_grown {w w' : World} {b : Nat} (h : w.grownBy w' (some b)) : Upd (fun k => k = b) w.heap.size w w' :=
  ⟨h.os, h.tape, h.output, h.size, fun k hk hs => h.block k hk (fun e => hs (Option.some.inj e))⟩
end Go.Proofs.Yteehhbgjjamjiaa
