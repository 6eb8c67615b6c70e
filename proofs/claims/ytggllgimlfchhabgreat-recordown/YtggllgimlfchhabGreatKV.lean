/- Several texts as one. -/
import Derived.Test.YtggllgimlfchhabGreatKU
import Derived.Deep.QuietTactic
import Derived.BigQuiet
import Derived.Deep.RegionHeld3
import Derived.Deep.RegionWith
import Derived.Defers
import Derived.Recover
import Derived.Laws.Pointers

/- Contracts of the reader: next, low, number. -/
namespace Go.Proofs.YtggllgimlfchhabGreat
open Go.RowKit
set_option maxRecDepth 100000

theorem must_okq (er : Int) (w : World) :
    Calls Tryz.prog 112 #[.bool true, .int .i64 er] w fun e w' => e = .returned (.tuple #[]) ∧ w' = w := (must_ok er w).mono fun _ _ h => ⟨h.1, h.2.symm⟩

set_option maxHeartbeats 400000 in
theorem next_cells (R : Nat) (ao : Option Addr) (len cap p n : Nat) (w : World) (hl : len ≤ cap) (hm : len ≤ 140737488355328) (hp : p + n ≤ len)
    (h0 : w.cell? ⟨R, 0, none⟩ = some (.slice ao len cap)) (h1 : w.cell? ⟨R, 1, none⟩ = some (.int .i64 p)) (f1 : w.frozen? ⟨R, 1, none⟩ = false) :
    Calls Tryz.prog 113 #[.pointer (some ⟨R, 0, none⟩), .int .i64 n] w fun e w' => e = .returned (.slice (if cap = p then ao else ao.map (·.add p)) (p + n - p) (cap - p)) ∧ ∃ j k, w' = ((w.drewN j).setCell ⟨R, 1, none⟩ (.int .i64 ((p + n : Nat) : Int))).drewN k := by
  have hle : decide ((n : Int) ≤ (len : Int) - (p : Int)) = true := by simp; omega
  have ep : ((p + n : Nat) : Int) = (p : Int) + (n : Int) := by omega
  rw [ep]
  clear ep
  by_cases hcp : cap = p
  · rw [if_pos hcp]
    subst hcp
    rw [Nat.sub_self cap]
    go_enter Tryz.func113, Tryz.ntmps113
    go_wp2
    go_quiet ((go_at_call 112; exact Calls.quiet_of_same (must_okq _ _)))
    go_wp2
    go_quiet (fail)
    go_wp2
    go_ret
    exact ⟨rfl, _, _, rfl⟩
  · rw [if_neg hcp]
    go_enter Tryz.func113, Tryz.ntmps113
    go_wp2
    go_quiet ((go_at_call 112; exact Calls.quiet_of_same (must_okq _ _)))
    go_wp2
    go_quiet (fail)
    go_wp2
    go_ret
    exact ⟨rfl, _, _, rfl⟩

set_option maxHeartbeats 800000 in
theorem next_short (R : Nat) (ao : Option Addr) (len cap p : Nat) (n : Int) (w : World) (hm : len ≤ 140737488355328) (hp : p ≤ len) (hn : (len : Int) - p < n)
    (h0 : w.cell? ⟨R, 0, none⟩ = some (.slice ao len cap)) (h1 : w.cell? ⟨R, 1, none⟩ = some (.int .i64 p)) :
    Calls Tryz.prog 113 #[.pointer (some ⟨R, 0, none⟩), .int .i64 n] w fun e w' => e = .panicked [{ v := .iface 151 (.agg #[.int .i64 10]), recovered := false }] ∧ w' = w.drew := by
  have hw : IntKind.i64.wrap ((len : Int) - (p : Int)) = (len : Int) - (p : Int) := by rw [IntKind.wrap_i64]; omega
  have HW : Hid (decide (n ≤ IntKind.i64.wrap ((len : Int) - (p : Int))) = false) := by rw [hw]; show decide _ = false; simp; omega
  clear hw hn
  go_enter Tryz.func113, Tryz.ntmps113
  go_wp2
  refine wp_region_held_drew (S := fun w' => w'.cell? ⟨R, 0, none⟩ = some (.slice ao len cap) ∧ w'.cell? ⟨R, 1, none⟩ = some (.int .i64 p)) (by kernel_rfl) ⟨by simpa using h0, by simpa using h1⟩ (fun hHeld => ?_)
  refine wpAnyH_take (i := 0) (v := ?v0) rfl (by kernel_rfl) (by kernel_rfl) (by kernel_rfl) (fun _ _ _ h => h) (Or.inl ⟨by rfl, ?hy0⟩) (by assumption) ?rest0
  case hy0 => intro w hSw; go_simp <;> with_reducible rfl
  simp only [Act.put, List.getElem_toArray, List.getElem_cons_zero, List.setIfInBounds_toArray, List.set_cons_zero, List.set_cons_succ]
  refine wpAnyH_take (i := 1) (v := ?v1) rfl (by kernel_rfl) (by kernel_rfl) (by kernel_rfl) (fun _ _ _ h => h) (Or.inl ⟨by rfl, ?hy1⟩) (by assumption) ?rest1
  case hy1 => intro w hSw; go_simp <;> with_reducible rfl
  simp only [Act.put, List.getElem_toArray, List.getElem_cons_zero, List.getElem_cons_succ, List.setIfInBounds_toArray, List.set_cons_zero, List.set_cons_succ]
  refine wpAnyH_take (i := 2) (v := ?v2) rfl (by kernel_rfl) (by kernel_rfl) (by kernel_rfl) (fun _ _ _ h => h) (Or.inl ⟨by rfl, ?hy2⟩) (by assumption) ?rest2
  case hy2 => intro w hSw; go_simp <;> with_reducible rfl
  simp only [Act.put, List.getElem_toArray, List.getElem_cons_zero, List.getElem_cons_succ, List.setIfInBounds_toArray, List.set_cons_zero, List.set_cons_succ]
  refine wpAnyH_take (i := 3) (v := ?v3) rfl (by kernel_rfl) (by kernel_rfl) (by kernel_rfl) (fun _ _ _ h => h) (Or.inl ⟨by rfl, ?hy3⟩) (by assumption) ?rest3
  case hy3 => intro w hSw; go_simp <;> with_reducible rfl
  simp only [Act.put, List.getElem_toArray, List.getElem_cons_zero, List.getElem_cons_succ, List.setIfInBounds_toArray, List.set_cons_zero, List.set_cons_succ]
  refine wpAnyH_take (i := 4) (v := ?v4) rfl (by kernel_rfl) (by kernel_rfl) (by kernel_rfl) (fun _ _ _ h => h) (Or.inl ⟨by rfl, ?hy4⟩) (by assumption) ?rest4
  case hy4 => intro w hSw; go_simp <;> with_reducible rfl
  simp only [Act.put, List.getElem_toArray, List.getElem_cons_zero, List.getElem_cons_succ, List.setIfInBounds_toArray, List.set_cons_zero, List.set_cons_succ]
  refine wpAnyH_take (i := 5) (v := ?v5) rfl (by kernel_rfl) (by kernel_rfl) (by kernel_rfl) (fun _ _ _ h => h) (Or.inl ⟨by rfl, ?hy5⟩) (by assumption) ?rest5
  case hy5 => intro w hSw; go_simp <;> with_reducible rfl
  simp only [Act.put, List.getElem_toArray, List.getElem_cons_zero, List.getElem_cons_succ, List.setIfInBounds_toArray, List.set_cons_zero, List.set_cons_succ]
  refine wpAnyH_take (i := 6) (v := ?v6) rfl (by kernel_rfl) (by kernel_rfl) (by kernel_rfl) (fun _ _ _ h => h) (Or.inl ⟨by rfl, ?hy6⟩) (by assumption) ?rest6
  case hy6 => intro w hSw; go_simp <;> with_reducible rfl
  simp only [Act.put, List.getElem_toArray, List.getElem_cons_zero, List.getElem_cons_succ, List.setIfInBounds_toArray, List.set_cons_zero, List.set_cons_succ]
  refine wpAnyH_take (i := 7) (v := ?v7) rfl (by kernel_rfl) (by kernel_rfl) (by kernel_rfl) (fun _ _ _ h => h) (Or.inl ⟨by rfl, ?hy7⟩) (by assumption) ?rest7
  case hy7 => intro w hSw; go_simp <;> with_reducible rfl
  simp only [Act.put, List.getElem_toArray, List.getElem_cons_zero, List.getElem_cons_succ, List.setIfInBounds_toArray, List.set_cons_zero, List.set_cons_succ]
  refine wpAnyH_take (i := 8) (v := ?v8) rfl (by kernel_rfl) (by kernel_rfl) (by kernel_rfl) (fun _ _ _ h => h) (Or.inl ⟨by rfl, ?hy8⟩) (by assumption) ?rest8
  case hy8 => intro w hSw; go_simp <;> with_reducible rfl
  simp only [Act.put, List.getElem_toArray, List.getElem_cons_zero, List.getElem_cons_succ, List.setIfInBounds_toArray, List.set_cons_zero, List.set_cons_succ]
  refine wpAnyH_take (i := 9) (v := ?v9) rfl (by kernel_rfl) (by kernel_rfl) (by kernel_rfl) (fun _ _ _ h => h) (Or.inl ⟨by rfl, ?hy9⟩) (by assumption) ?rest9
  case hy9 => intro w hSw; go_simp <;> with_reducible rfl
  simp only [Act.put, List.getElem_toArray, List.getElem_cons_zero, List.getElem_cons_succ, List.setIfInBounds_toArray, List.set_cons_zero, List.set_cons_succ]
  refine wpAnyH_take (i := 10) (v := ?v10) rfl (by kernel_rfl) (by kernel_rfl) (by kernel_rfl) (fun _ _ _ h => h) (Or.inl ⟨by rfl, ?hy10⟩) (by assumption) ?rest10
  case hy10 => intro w hSw; go_simp <;> with_reducible rfl
  simp only [Act.put, List.getElem_toArray, List.getElem_cons_zero, List.getElem_cons_succ, List.setIfInBounds_toArray, List.set_cons_zero, List.set_cons_succ]
  refine wpAnyH_take (i := 11) (v := ?v11) rfl (by kernel_rfl) (by kernel_rfl) (by kernel_rfl) (fun _ _ _ h => h) (Or.inl ⟨by rfl, ?hy11⟩) (by assumption) ?rest11
  case hy11 => intro w hSw; go_simp <;> with_reducible rfl
  simp only [Act.put, List.getElem_toArray, List.getElem_cons_zero, List.getElem_cons_succ, List.setIfInBounds_toArray, List.set_cons_zero, List.set_cons_succ]
  refine wpAnyH_ready (rs := [12]) (by kernel_rfl) (by simp) ?_
  refine AllReadyH.cons rfl (fun K hK => ?_) AllReadyH.nil
  go_simp
  rw [HW.out]
  refine (must_no _ _).mono ?_
  rintro e w' ⟨rfl, rfl⟩
  exact ⟨rfl, rfl, rfl⟩

end Go.Proofs.YtggllgimlfchhabGreat

/- Contracts of the reader: next, low, number, told of what the reader sees. -/
namespace Go.Proofs.YtggllgimlfchhabGreat
open Go.RowKit
set_option maxRecDepth 100000

/-- A reader: the bytes that it reads, and how far it is. -/
def AtR (w : World) (R : Nat) (v : Value) (p : Nat) : Prop := w.heap[R]? = some (.cells #[v, .int .i64 p] 154 (0, 0))
theorem AtR.c0 {w : World} {R : Nat} {v : Value} {p : Nat} (h : AtR w R v p) : w.cell? ⟨R, 0, none⟩ = some v := by rw [cell_of_row w R 0 _ _ _ h]; rfl
theorem AtR.c1 {w : World} {R : Nat} {v : Value} {p : Nat} (h : AtR w R v p) : w.cell? ⟨R, 1, none⟩ = some (.int .i64 p) := by rw [cell_of_row w R 1 _ _ _ h]; rfl
theorem AtR.f1 {w : World} {R : Nat} {v : Value} {p : Nat} (h : AtR w R v p) : w.frozen? ⟨R, 1, none⟩ = false := frozen_of_row w R 1 _ _ h
theorem AtR.set {w : World} {R : Nat} {v : Value} {p : Nat} (h : AtR w R v p) (j k q : Nat) : AtR (((w.drewN j).setCell ⟨R, 1, none⟩ (.int .i64 q)).drewN k) R v q := by
  have h' : (w.drewN j).heap[R]? = some (.cells #[v, .int .i64 p] 154 (0, 0)) := h
  have := heap_setCell_same (w.drewN j) R 1 _ 154 (.int .i64 q) h'
  exact this
theorem below_set (w : World) (R : Nat) (x : Value) (j k : Nat) : Below R w (((w.drewN j).setCell ⟨R, 1, none⟩ x).drewN k) := by
  have h1 : Below R w (w.drewN j) := below_drewN (Below.refl _ _) j
  exact below_drewN (h1.setCell (p := ⟨R, 1, none⟩) (Nat.le_refl _) x) k

/-- Nothing has turned but the reader, and no block is new. -/
def OnlyR (R : Nat) (w w' : World) : Prop := w'.heap.size = w.heap.size ∧ ∀ k, k ≠ R → w'.heap[k]? = w.heap[k]?
theorem OnlyR.trans {R : Nat} {a b c : World} (h : OnlyR R a b) (g : OnlyR R b c) : OnlyR R a c := ⟨g.1.trans h.1, fun k hk => (g.2 k hk).trans (h.2 k hk)⟩
theorem onlyR_set (w : World) (R : Nat) (x : Value) (j k : Nat) : OnlyR R w (((w.drewN j).setCell ⟨R, 1, none⟩ x).drewN k) :=
  ⟨by simp [World.setCell], fun i hi => Below.heap_setCell (w.drewN j) ⟨R, 1, none⟩ x i hi⟩

/-- How a reader gives up. -/
def GiveUp (er : Int) : Ending := .panicked [{ v := .iface 151 (.agg #[.int .i64 er]), recovered := false }]

theorem next_ok (R : Nat) (v : Value) (zs : List Int) (p k : Nat) (n : Int) (w : World) (hn : n = k) (hat : AtR w R v p) (hs : SeesB R w .u8 v zs) (hm : zs.length ≤ 140737488355328) (hp : p + k ≤ zs.length) :
    Calls Tryz.prog 113 #[.pointer (some ⟨R, 0, none⟩), .int .i64 n] w fun e w' => ∃ rv, e = .returned rv ∧ SeesB R w' .u8 rv ((zs.drop p).take k) ∧ AtR w' R v (p + k) ∧ Below R w w' ∧ OnlyR R w w' := by
  subst hn
  have hs0 := hs
  obtain ⟨ao, cap, rfl, hlc, hnil, hc⟩ := hs
  refine (next_cells R ao zs.length cap p k w hlc hm hp hat.c0 hat.c1 hat.f1).mono ?_
  rintro e w' ⟨rfl, i, j, rfl⟩
  refine ⟨_, rfl, ?_, hat.set _ _ _, below_set _ _ _ _ _, onlyR_set _ _ _ _ _⟩
  rw [show p + k - p = k by omega]
  exact (hs0.cut p k hp).below (below_set _ _ _ _ _) (Nat.le_refl _)

theorem next_no (R : Nat) (v : Value) (zs : List Int) (p : Nat) (n : Int) (w : World) (hat : AtR w R v p) (hs : SeesB R w .u8 v zs) (hm : zs.length ≤ 140737488355328) (hp : p ≤ zs.length) (hn : (zs.length : Int) - p < n) :
    Calls Tryz.prog 113 #[.pointer (some ⟨R, 0, none⟩), .int .i64 n] w fun e w' => e = GiveUp 10 ∧ Below R w w' := by
  obtain ⟨ao, cap, rfl, hlc, hnil, hc⟩ := hs
  refine (next_short R ao zs.length cap p n w hm hp hn hat.c0 hat.c1).mono ?_
  rintro e w' ⟨rfl, rfl⟩
  exact ⟨rfl, (Below.refl _ _).drew⟩

/-- What a number's k bytes say, laid one above the other. -/
theorem valL_take_snoc (l : List Int) (k : Nat) (h : k < l.length) : valL (l.take (k + 1)) = valL (l.take k) + l.getD k 0 * B256 k := by
  rw [take_snoc l k h, valL_snoc]
  simp only [List.length_take, Nat.min_eq_left (Nat.le_of_lt h)]

theorem or_step (l : List Int) (hb : Byt l) (k : Nat) (h : k < l.length) (h8 : l.length ≤ 8) : bits .or .u64 (valL (l.take k)) (l.getD k 0 * B256 k) = valL (l.take (k + 1)) := by
  have hv := valL_bound (l.take k) (hb.take k)
  have hl : (l.take k).length = k := by simp; omega
  rw [hl] at hv
  have hg := hb.get k
  rw [or_low _ _ k (by omega) hv.1 hv.2 hg.1 hg.2, valL_take_snoc l k h]

theorem shl_byte (x : Int) (k : Nat) (hx : 0 ≤ x) (hx2 : x ≤ 255) (hk : k ≤ 7) : IntKind.u64.wrap (x * 2 ^ (8 * k)) = x * B256 k := by
  have e : (2 : Int) ^ (8 * k) = B256 k := by rw [B256_eq]; simp
  rw [e, IntKind.wrap_u64]
  have hm : B256 (k + 1) ≤ B256 8 := B256_mono _ _ (by omega)
  rw [B256_8] at hm
  have hpos := B256_pos k
  have hxb : x * B256 k ≤ 255 * B256 k := Int.mul_le_mul_of_nonneg_right hx2 (by omega)
  have hx0 : 0 ≤ x * B256 k := Int.mul_nonneg hx (by omega)
  simp only [B256] at hm
  omega

set_option maxHeartbeats 800000 in
theorem low_ok (R : Nat) (v : Value) (zs : List Int) (p k : Nat) (n : Int) (w : World) (hn : n = k) (hat : AtR w R v p) (hs : SeesB R w .u8 v zs) (hby : Byt zs) (hm : zs.length ≤ 140737488355328) (hk : k ≤ 8) (hp : p + k ≤ zs.length) :
    Calls Tryz.prog 114 #[.pointer (some ⟨R, 0, none⟩), .int .i64 n] w fun e w' => e = .returned (.int .u64 (valL ((zs.drop p).take k))) ∧ AtR w' R v (p + k) ∧ Below R w w' ∧ OnlyR R w w' := by
  subst hn
  have hbb : Byt ((zs.drop p).take k) := (hby.drop p).take k
  have hlen : ((zs.drop p).take k).length = k := by simp; omega
  have hnx := next_ok R v zs p k _ w rfl hat hs hm hp
  generalize (zs.drop p).take k = bs at *
  subst hlen
  clear hat hs
  go_enter Tryz.func114, Tryz.ntmps114
  have HN := hide hnx
  clear hnx
  go_wp2_with (go_at_call 113; refine (unhide HN).mono ?_; rintro e w1 ⟨rv, rfl, hsr, hat1, hb1, hz1⟩; obtain ⟨ao, cap, rfl, hlc, hnil, hc⟩ := hsr)
  clear HN
  have HZ : Hid (OnlyR R w w1) := hz1
  clear hz1
  go_loop [5, 12] (fun u i => ∃ j : Nat, j ≤ bs.length ∧ i = .int .i64 j ∧ u = .int .u64 (valL (bs.take j))) (fun _ i => bs.length - (intOf i).toNat)
  case atStart => exact ⟨0, Nat.zero_le _, rfl, rfl⟩
  case round =>
    obtain ⟨j, hj, rfl, rfl⟩ := hrel
    by_cases hlt : j < bs.length
    · cases ao with
      | none => have := hnil rfl; omega
      | some a =>
        have hcj := (hc a rfl j hlt).1
        have hg := hbb.get j
        have hor := hide (or_step bs hbb j hlt hk)
        have hsh := hide (shl_byte (bs.getD j 0) j hg.1 hg.2 (by omega))
        clear hc hnil
        obtain ⟨hg1, hg2⟩ := hg
        generalize bs.getD j 0 = x at *
        go_wp2
        go_round
        case rel => exact ⟨j + 1, by omega, by go_num, by rw [hsh.out, hor.out]⟩
        case measure => simp [intOf]; omega
    · go_wp2
      go_ret
      obtain rfl : j = bs.length := by omega
      exact ⟨ret_int (by rw [List.take_length]), hat1, hb1, HZ.out⟩

set_option maxHeartbeats 400000 in
theorem low_no (R : Nat) (v : Value) (zs : List Int) (p : Nat) (n : Int) (w : World) (hat : AtR w R v p) (hs : SeesB R w .u8 v zs) (hm : zs.length ≤ 140737488355328) (hp : p ≤ zs.length) (hn : (zs.length : Int) - p < n) :
    Calls Tryz.prog 114 #[.pointer (some ⟨R, 0, none⟩), .int .i64 n] w fun e w' => e = GiveUp 10 ∧ Below R w w' := by
  have HN := hide (next_no R v zs p n w hat hs hm hp hn)
  clear hn
  go_enter Tryz.func114, Tryz.ntmps114
  go_wp2_with fail
  refine (unhide HN).mono ?_
  rintro e w1 ⟨rfl, hb⟩
  exact ⟨rfl, rfl, hb⟩

theorem next_one (R : Nat) (v : Value) (zs : List Int) (p : Nat) (h : Int) (w : World) (hat : AtR w R v p) (hs : SeesB R w .u8 v zs) (hm : zs.length ≤ 140737488355328) (hp : p < zs.length) (hh : zs.getD p 0 = h) :
    Calls Tryz.prog 113 #[.pointer (some ⟨R, 0, none⟩), .int .i64 1] w fun e w' => ∃ a cap, e = .returned (.slice (some a) 1 cap) ∧ w'.cell? a = some (.int .u8 h) ∧ AtR w' R v (p + 1) ∧ Below R w w' ∧ OnlyR R w w' := by
  refine (next_ok R v zs p 1 1 w rfl hat hs hm (by omega)).mono ?_
  rintro e w' ⟨rv, rfl, hsr, hat1, hb1, hz1⟩
  obtain ⟨ao, cap, rfl, hlc, hnil, hc⟩ := hsr
  have hl : ((zs.drop p).take 1).length = 1 := by simp; omega
  rw [hl] at hlc hc ⊢
  cases ao with
  | none => have := hnil rfl; omega
  | some a =>
    refine ⟨a, cap, rfl, ?_, hat1, hb1, hz1⟩
    have := (hc a rfl 0 (by omega)).1
    rw [show a.add 0 = a from rfl] at this
    rw [this, ← hh]
    simp [List.getD, hp]

end Go.Proofs.YtggllgimlfchhabGreat

/- The contract of the reader's number. -/
namespace Go.Proofs.YtggllgimlfchhabGreat
open Go.RowKit
set_option maxRecDepth 100000

theorem neg_u (u : Int) (h0 : 0 ≤ u) (h1 : u ≤ 9223372036854775808) : wrap64 (IntKind.u64.wrap (-u)) = -u := by
  rw [IntKind.wrap_u64]; unfold wrap64; omega

set_option maxHeartbeats 400000 in
theorem number_head (R : Nat) (v : Value) (zs : List Int) (p : Nat) (h : Int) (w : World) (hat : AtR w R v p) (hs : SeesB R w .u8 v zs) (hm : zs.length ≤ 140737488355328) (hp : p < zs.length) (hh : zs.getD p 0 = h) (h0 : 0 ≤ h) (h1 : h ≤ 255) (hbad : 17 < h ∨ h = 1) :
    Calls Tryz.prog 111 #[.pointer (some ⟨R, 0, none⟩)] w fun e w' => e = GiveUp 11 ∧ Below R w w' := by
  have HN := hide (next_one R v zs p h w hat hs hm hp hh)
  clear hh hat hs
  rcases hbad with hbad | rfl
  · go_enter Tryz.func111, Tryz.ntmps111
    go_wp2_with (go_at_call 113; refine (unhide HN).mono ?_; rintro e w1 ⟨a, cap, rfl, hc, hat1, hb1, hz1⟩)
    refine (must_no _ _).mono ?_
    rintro e w2 ⟨rfl, rfl⟩
    exact ⟨rfl, rfl, hb1⟩
  · go_enter Tryz.func111, Tryz.ntmps111
    go_wp2_with (go_at_call 113; refine (unhide HN).mono ?_; rintro e w1 ⟨a, cap, rfl, hc, hat1, hb1, hz1⟩)
    refine (must_no _ _).mono ?_
    rintro e w2 ⟨rfl, rfl⟩
    exact ⟨rfl, rfl, hb1⟩

set_option maxHeartbeats 400000 in
theorem number_end (R : Nat) (v : Value) (zs : List Int) (p : Nat) (w : World) (hat : AtR w R v p) (hs : SeesB R w .u8 v zs) (hm : zs.length ≤ 140737488355328) (hp : p = zs.length) :
    Calls Tryz.prog 111 #[.pointer (some ⟨R, 0, none⟩)] w fun e w' => e = GiveUp 10 ∧ Below R w w' := by
  have HN := hide (next_no R v zs p 1 w hat hs hm (by omega) (by omega))
  clear hp
  go_enter Tryz.func111, Tryz.ntmps111
  go_wp2_with fail
  refine (unhide HN).mono ?_
  rintro e w1 ⟨rfl, hb⟩
  exact ⟨rfl, rfl, hb⟩

set_option maxHeartbeats 400000 in
theorem number_short (R : Nat) (v : Value) (zs : List Int) (p : Nat) (h : Int) (w : World) (hat : AtR w R v p) (hs : SeesB R w .u8 v zs) (hm : zs.length ≤ 140737488355328) (hp : p < zs.length) (hh : zs.getD p 0 = h) (h0 : 0 ≤ h) (h17 : h ≤ 17) (hne : (h != 1) = true)
    (hsh : (zs.length : Int) - ((p + 1 : Nat) : Int) < h / 2) :
    Calls Tryz.prog 111 #[.pointer (some ⟨R, 0, none⟩)] w fun e w' => e = GiveUp 10 ∧ Below R w w' := by
  have HN := hide (next_one R v zs p h w hat hs hm hp hh)
  clear hh hat
  go_enter Tryz.func111, Tryz.ntmps111
  go_wp2_with (first
    | (go_at_call 113; refine (unhide HN).mono ?_; rintro e w1 ⟨a, cap, rfl, hc, hat1, hb1, hz1⟩; have HZ := hide hz1; clear hz1)
    | (go_at_call_of 112 (Value.bool true); refine (must_ok _ _).mono ?_; rintro e w2 ⟨rfl, rfl⟩))
  refine (low_no R v zs (p + 1) _ w1 hat1 (hs.below hb1 (Nat.le_refl _)) hm (by omega) hsh).mono ?_
  rintro e w2 ⟨rfl, hb2⟩
  exact ⟨rfl, rfl, hb1.trans hb2⟩

set_option maxHeartbeats 800000 in
theorem number_wide (R : Nat) (v : Value) (zs : List Int) (p : Nat) (h : Int) (k : Nat) (u : Int) (w : World) (hat : AtR w R v p) (hs : SeesB R w .u8 v zs) (hby : Byt zs) (hm : zs.length ≤ 140737488355328) (hh : zs.getD p 0 = h) (h0 : 0 ≤ h) (h17 : h ≤ 17) (hne : (h != 1) = true)
    (hk : h / 2 = k) (hp : p + 1 + k ≤ zs.length) (hu : valL ((zs.drop (p + 1)).take k) = u)
    (hw : ((wid u : Int) == h / 2) = false) :
    Calls Tryz.prog 111 #[.pointer (some ⟨R, 0, none⟩)] w fun e w' => e = GiveUp 11 ∧ Below R w w' := by
  have HN := hide (next_one R v zs p h w hat hs hm (by omega) hh)
  have HU := hide hu
  have HK := hide hk
  have hv := valL_bound ((zs.drop (p + 1)).take k) ((hby.drop _).take _)
  have hB : B256 ((zs.drop (p + 1)).take k).length ≤ B256 8 := B256_mono _ _ (by simp; omega)
  rw [B256_8] at hB
  rw [hu] at hv
  have hu0 : 0 ≤ u := hv.1
  have hu1 : u ≤ 18446744073709551615 := by omega
  clear hh hat hu hk hv hB
  go_enter Tryz.func111, Tryz.ntmps111
  go_wp2_with (first
    | (go_at_call 113; refine (unhide HN).mono ?_; rintro e w1 ⟨a, cap, rfl, hc, hat1, hb1, hz1⟩; have HZ := hide hz1; clear hz1)
    | (go_at_call_of 112 (Value.bool true); refine (must_ok _ _).mono ?_; rintro e w2 ⟨rfl, rfl⟩)
    | (go_at_call 114; refine (low_ok R v zs (p + 1) k _ w1 (unhide HK) hat1 (hs.below hb1 (Nat.le_refl _)) hby hm (by have := unhide HK; omega) hp).mono ?_; rintro e w2 ⟨rfl, hat2, hb2, hz2⟩; have HZ2 := hide hz2; clear hz2; rw [unhide HU])
    | (go_at_call 127; refine (wid_any _ hu0 hu1 _).mono ?_; rintro e w3 ⟨rfl, rfl⟩))
  refine (must_no _ _).mono ?_
  rintro e w4 ⟨rfl, rfl⟩
  exact ⟨rfl, rfl, hb1.trans hb2⟩

set_option maxHeartbeats 800000 in
theorem number_neg_no (R : Nat) (v : Value) (zs : List Int) (p : Nat) (h : Int) (k : Nat) (u : Int) (w : World) (hat : AtR w R v p) (hs : SeesB R w .u8 v zs) (hby : Byt zs) (hm : zs.length ≤ 140737488355328) (hh : zs.getD p 0 = h) (h0 : 0 ≤ h) (h17 : h ≤ 17) (hne : (h != 1) = true)
    (hk : h / 2 = k) (hp : p + 1 + k ≤ zs.length) (hu : valL ((zs.drop (p + 1)).take k) = u)
    (hw : ((wid u : Int) == h / 2) = true) (ho : (h % 2 == 1) = true) (hbig : 9223372036854775808 < u) :
    Calls Tryz.prog 111 #[.pointer (some ⟨R, 0, none⟩)] w fun e w' => e = GiveUp 11 ∧ Below R w w' := by
  have HN := hide (next_one R v zs p h w hat hs hm (by omega) hh)
  have HU := hide hu
  have HK := hide hk
  have hv := valL_bound ((zs.drop (p + 1)).take k) ((hby.drop _).take _)
  have hB : B256 ((zs.drop (p + 1)).take k).length ≤ B256 8 := B256_mono _ _ (by simp; omega)
  rw [B256_8] at hB
  rw [hu] at hv
  have hu0 : 0 ≤ u := hv.1
  have hu1 : u ≤ 18446744073709551615 := by omega
  clear hh hat hu hk hv hB
  go_enter Tryz.func111, Tryz.ntmps111
  go_wp2_with (first
    | (go_at_call 113; refine (unhide HN).mono ?_; rintro e w1 ⟨a, cap, rfl, hc, hat1, hb1, hz1⟩; have HZ := hide hz1; clear hz1)
    | (go_at_call_of 112 (Value.bool true); refine (must_ok _ _).mono ?_; rintro e w2 ⟨rfl, rfl⟩)
    | (go_at_call 114; refine (low_ok R v zs (p + 1) k _ w1 (unhide HK) hat1 (hs.below hb1 (Nat.le_refl _)) hby hm (by have := unhide HK; omega) hp).mono ?_; rintro e w2 ⟨rfl, hat2, hb2, hz2⟩; have HZ2 := hide hz2; clear hz2; rw [unhide HU])
    | (go_at_call 127; refine (wid_any _ hu0 hu1 _).mono ?_; rintro e w3 ⟨rfl, rfl⟩))
  rw [show decide (u ≤ 9223372036854775808) = false from decide_eq_false (by omega)]
  refine (must_no _ _).mono ?_
  rintro e w4 ⟨rfl, rfl⟩
  exact ⟨rfl, rfl, hb1.trans hb2⟩

set_option maxHeartbeats 800000 in
theorem number_pos_no (R : Nat) (v : Value) (zs : List Int) (p : Nat) (h : Int) (k : Nat) (u : Int) (w : World) (hat : AtR w R v p) (hs : SeesB R w .u8 v zs) (hby : Byt zs) (hm : zs.length ≤ 140737488355328) (hh : zs.getD p 0 = h) (h0 : 0 ≤ h) (h17 : h ≤ 17) (hne : (h != 1) = true)
    (hk : h / 2 = k) (hp : p + 1 + k ≤ zs.length) (hu : valL ((zs.drop (p + 1)).take k) = u)
    (hw : ((wid u : Int) == h / 2) = true) (ho : (h % 2 == 1) = false) (hbig : 9223372036854775808 ≤ u) :
    Calls Tryz.prog 111 #[.pointer (some ⟨R, 0, none⟩)] w fun e w' => e = GiveUp 11 ∧ Below R w w' := by
  have HN := hide (next_one R v zs p h w hat hs hm (by omega) hh)
  have HU := hide hu
  have HK := hide hk
  have hv := valL_bound ((zs.drop (p + 1)).take k) ((hby.drop _).take _)
  have hB : B256 ((zs.drop (p + 1)).take k).length ≤ B256 8 := B256_mono _ _ (by simp; omega)
  rw [B256_8] at hB
  rw [hu] at hv
  have hu0 : 0 ≤ u := hv.1
  have hu1 : u ≤ 18446744073709551615 := by omega
  clear hh hat hu hk hv hB
  go_enter Tryz.func111, Tryz.ntmps111
  go_wp2_with (first
    | (go_at_call 113; refine (unhide HN).mono ?_; rintro e w1 ⟨a, cap, rfl, hc, hat1, hb1, hz1⟩; have HZ := hide hz1; clear hz1)
    | (go_at_call_of 112 (Value.bool true); refine (must_ok _ _).mono ?_; rintro e w2 ⟨rfl, rfl⟩)
    | (go_at_call 114; refine (low_ok R v zs (p + 1) k _ w1 (unhide HK) hat1 (hs.below hb1 (Nat.le_refl _)) hby hm (by have := unhide HK; omega) hp).mono ?_; rintro e w2 ⟨rfl, hat2, hb2, hz2⟩; have HZ2 := hide hz2; clear hz2; rw [unhide HU])
    | (go_at_call 127; refine (wid_any _ hu0 hu1 _).mono ?_; rintro e w3 ⟨rfl, rfl⟩))
  rw [show decide (u < 9223372036854775808) = false from decide_eq_false (by omega)]
  refine (must_no _ _).mono ?_
  rintro e w4 ⟨rfl, rfl⟩
  exact ⟨rfl, rfl, hb1.trans hb2⟩

set_option maxHeartbeats 800000 in
theorem number_neg_ok (R : Nat) (v : Value) (zs : List Int) (p : Nat) (h : Int) (k : Nat) (u : Int) (w : World) (hat : AtR w R v p) (hs : SeesB R w .u8 v zs) (hby : Byt zs) (hm : zs.length ≤ 140737488355328) (hh : zs.getD p 0 = h) (h0 : 0 ≤ h) (h17 : h ≤ 17) (hne : (h != 1) = true)
    (hk : h / 2 = k) (hp : p + 1 + k ≤ zs.length) (hu : valL ((zs.drop (p + 1)).take k) = u)
    (hw : ((wid u : Int) == h / 2) = true) (ho : (h % 2 == 1) = true) (hsm : u ≤ 9223372036854775808) :
    Calls Tryz.prog 111 #[.pointer (some ⟨R, 0, none⟩)] w fun e w' => e = .returned (.int .i64 (-u)) ∧ AtR w' R v (p + 1 + k) ∧ Below R w w' ∧ OnlyR R w w' := by
  have HN := hide (next_one R v zs p h w hat hs hm (by omega) hh)
  have HU := hide hu
  have HK := hide hk
  have hv := valL_bound ((zs.drop (p + 1)).take k) ((hby.drop _).take _)
  have hB : B256 ((zs.drop (p + 1)).take k).length ≤ B256 8 := B256_mono _ _ (by simp; omega)
  rw [B256_8] at hB
  rw [hu] at hv
  have hu0 : 0 ≤ u := hv.1
  have hu1 : u ≤ 18446744073709551615 := by omega
  clear hh hat hu hk hv hB
  go_enter Tryz.func111, Tryz.ntmps111
  go_wp2_with (first
    | (go_at_call 113; refine (unhide HN).mono ?_; rintro e w1 ⟨a, cap, rfl, hc, hat1, hb1, hz1⟩; have HZ := hide hz1; clear hz1)
    | (go_at_call_of 112 (Value.bool true); refine (must_ok _ _).mono ?_; rintro e w2 ⟨rfl, rfl⟩)
    | (go_at_call 114; refine (low_ok R v zs (p + 1) k _ w1 (unhide HK) hat1 (hs.below hb1 (Nat.le_refl _)) hby hm (by have := unhide HK; omega) hp).mono ?_; rintro e w2 ⟨rfl, hat2, hb2, hz2⟩; have HZ2 := hide hz2; clear hz2; rw [unhide HU])
    | (go_at_call 127; refine (wid_any _ hu0 hu1 _).mono ?_; rintro e w3 ⟨rfl, rfl⟩))
  go_ret
  exact ⟨ret_int (neg_u u hu0 hsm), hat2, hb1.trans hb2, (unhide HZ).trans (unhide HZ2)⟩

set_option maxHeartbeats 800000 in
theorem number_pos_ok (R : Nat) (v : Value) (zs : List Int) (p : Nat) (h : Int) (k : Nat) (u : Int) (w : World) (hat : AtR w R v p) (hs : SeesB R w .u8 v zs) (hby : Byt zs) (hm : zs.length ≤ 140737488355328) (hh : zs.getD p 0 = h) (h0 : 0 ≤ h) (h17 : h ≤ 17) (hne : (h != 1) = true)
    (hk : h / 2 = k) (hp : p + 1 + k ≤ zs.length) (hu : valL ((zs.drop (p + 1)).take k) = u)
    (hw : ((wid u : Int) == h / 2) = true) (ho : (h % 2 == 1) = false) (hsm : u < 9223372036854775808) :
    Calls Tryz.prog 111 #[.pointer (some ⟨R, 0, none⟩)] w fun e w' => e = .returned (.int .i64 u) ∧ AtR w' R v (p + 1 + k) ∧ Below R w w' ∧ OnlyR R w w' := by
  have HN := hide (next_one R v zs p h w hat hs hm (by omega) hh)
  have HU := hide hu
  have HK := hide hk
  have hv := valL_bound ((zs.drop (p + 1)).take k) ((hby.drop _).take _)
  have hB : B256 ((zs.drop (p + 1)).take k).length ≤ B256 8 := B256_mono _ _ (by simp; omega)
  rw [B256_8] at hB
  rw [hu] at hv
  have hu0 : 0 ≤ u := hv.1
  have hu1 : u ≤ 18446744073709551615 := by omega
  clear hh hat hu hk hv hB
  go_enter Tryz.func111, Tryz.ntmps111
  go_wp2_with (first
    | (go_at_call 113; refine (unhide HN).mono ?_; rintro e w1 ⟨a, cap, rfl, hc, hat1, hb1, hz1⟩; have HZ := hide hz1; clear hz1)
    | (go_at_call_of 112 (Value.bool true); refine (must_ok _ _).mono ?_; rintro e w2 ⟨rfl, rfl⟩)
    | (go_at_call 114; refine (low_ok R v zs (p + 1) k _ w1 (unhide HK) hat1 (hs.below hb1 (Nat.le_refl _)) hby hm (by have := unhide HK; omega) hp).mono ?_; rintro e w2 ⟨rfl, hat2, hb2, hz2⟩; have HZ2 := hide hz2; clear hz2; rw [unhide HU])
    | (go_at_call 127; refine (wid_any _ hu0 hu1 _).mono ?_; rintro e w3 ⟨rfl, rfl⟩))
  go_ret
  exact ⟨rfl, hat2, hb1.trans hb2, (unhide HZ).trans (unhide HZ2)⟩

/-- The number with which bytes begin, how many bytes it has, and what is wrong with them. -/
def tn : List Int → Int × Nat × Int
  | [] => (0, 0, 10)
  | h :: r =>
    if 17 < h ∨ h = 1 then (0, 0, 11)
    else if r.length < (h / 2).toNat then (0, 0, 10)
    else if wid (valL (r.take (h / 2).toNat)) ≠ (h / 2).toNat then (0, 0, 11)
    else if h % 2 = 1 then (if valL (r.take (h / 2).toNat) ≤ 9223372036854775808 then (-valL (r.take (h / 2).toNat), 1 + (h / 2).toNat, 0) else (0, 0, 11))
    else (if valL (r.take (h / 2).toNat) < 9223372036854775808 then (valL (r.take (h / 2).toNat), 1 + (h / 2).toNat, 0) else (0, 0, 11))

/-- What a reader's part answers: a value, and how far the reader is behind it; or it gives up. -/
def Reads (R : Nat) (v : Value) (p : Nat) (w : World) (er : Int) (k : Nat) (x : Value) (e : Ending) (w' : World) : Prop :=
  Below R w w' ∧ (er = 0 → e = .returned x ∧ AtR w' R v (p + k) ∧ OnlyR R w w') ∧ (er ≠ 0 → e = GiveUp er)

theorem reads_no {R : Nat} {v : Value} {p : Nat} {w : World} {er : Int} {k : Nat} {x : Value} {e : Ending} {w' : World} (hne : er ≠ 0) (h : e = GiveUp er ∧ Below R w w') : Reads R v p w er k x e w' :=
  ⟨h.2, fun h0 => absurd h0 hne, fun _ => h.1⟩

theorem number_any (R : Nat) (v : Value) (zs : List Int) (p : Nat) (w : World) (hat : AtR w R v p) (hs : SeesB R w .u8 v zs) (hby : Byt zs) (hm : zs.length ≤ 140737488355328) (hp : p ≤ zs.length) :
    Calls Tryz.prog 111 #[.pointer (some ⟨R, 0, none⟩)] w fun e w' => Reads R v p w (tn (zs.drop p)).2.2 (tn (zs.drop p)).2.1 (.int .i64 (tn (zs.drop p)).1) e w' := by
  by_cases hpl : p = zs.length
  · have ht : tn (zs.drop p) = (0, 0, 10) := by rw [List.drop_of_length_le (by omega)]; rfl
    rw [ht]
    exact (number_end R v zs p w hat hs hm (by omega)).mono fun e w' h => reads_no (by decide) h
  · have hd : zs.drop p = zs.getD p 0 :: zs.drop (p + 1) := by
      rw [List.drop_eq_getElem_cons (by omega)]; simp [List.getD, show p < zs.length by omega]
    have hg := hby.get p
    have hlen : (zs.drop (p + 1)).length = zs.length - (p + 1) := List.length_drop
    rw [hd]
    obtain ⟨h, hh⟩ : ∃ h, zs.getD p 0 = h := ⟨_, rfl⟩
    obtain ⟨k, hk⟩ : ∃ k, (h / 2).toNat = k := ⟨_, rfl⟩
    obtain ⟨u, hu⟩ : ∃ u, valL ((zs.drop (p + 1)).take k) = u := ⟨_, rfl⟩
    rw [hh] at hg ⊢
    simp only [tn, hk, hu, hlen]
    by_cases c1 : 17 < h ∨ h = 1
    · simp only [if_pos c1]
      exact (number_head R v zs p h w hat hs hm (by omega) hh hg.1 hg.2 c1).mono fun e w' h => reads_no (by decide) h
    have hne : (h != 1) = true := by rw [bne_iff_ne]; omega
    simp only [if_neg c1]
    by_cases c2 : zs.length - (p + 1) < k
    · simp only [if_pos c2]
      exact (number_short R v zs p h w hat hs hm (by omega) hh hg.1 (by omega) hne (by omega)).mono fun e w' h => reads_no (by decide) h
    simp only [if_neg c2]
    have hk2 : h / 2 = (k : Int) := by omega
    have hkk : p + 1 + k ≤ zs.length := by omega
    by_cases c3 : wid u ≠ k
    · simp only [if_pos c3]
      exact (number_wide R v zs p h k u w hat hs hby hm hh hg.1 (by omega) hne hk2 hkk hu (by rw [beq_eq_false_iff_ne]; omega)).mono fun e w' h => reads_no (by decide) h
    simp only [if_neg c3]
    have hw : ((wid u : Int) == h / 2) = true := by rw [beq_iff_eq]; omega
    by_cases c4 : h % 2 = 1
    · simp only [if_pos c4]
      have ho : (h % 2 == 1) = true := by rw [beq_iff_eq]; exact c4
      by_cases c5 : u ≤ 9223372036854775808
      · simp only [if_pos c5]
        refine (number_neg_ok R v zs p h k u w hat hs hby hm hh hg.1 (by omega) hne hk2 hkk hu hw ho c5).mono ?_
        rintro e w' ⟨rfl, h2, h3, h4⟩
        exact ⟨h3, fun _ => ⟨rfl, by rw [← Nat.add_assoc]; exact h2, h4⟩, fun h => absurd rfl h⟩
      · simp only [if_neg c5]
        exact (number_neg_no R v zs p h k u w hat hs hby hm hh hg.1 (by omega) hne hk2 hkk hu hw ho (by omega)).mono fun e w' h => reads_no (by decide) h
    · simp only [if_neg c4]
      have ho : (h % 2 == 1) = false := by rw [beq_eq_false_iff_ne]; exact c4
      by_cases c5 : u < 9223372036854775808
      · simp only [if_pos c5]
        refine (number_pos_ok R v zs p h k u w hat hs hby hm hh hg.1 (by omega) hne hk2 hkk hu hw ho c5).mono ?_
        rintro e w' ⟨rfl, h2, h3, h4⟩
        exact ⟨h3, fun _ => ⟨rfl, by rw [← Nat.add_assoc]; exact h2, h4⟩, fun h => absurd rfl h⟩
      · simp only [if_neg c5]
        exact (number_pos_no R v zs p h k u w hat hs hby hm hh hg.1 (by omega) hne hk2 hkk hu hw ho (by omega)).mono fun e w' h => reads_no (by decide) h

end Go.Proofs.YtggllgimlfchhabGreat

/- Contracts of take's deferred function. -/
namespace Go.Proofs.YtggllgimlfchhabGreat
open Go.RowKit
set_option maxRecDepth 100000

theorem ta_yes (er : Int) (w : World) : (Instr.typeAssert (.iface 151 (.agg #[.int .i64 er])) 20 151 true).run Tryz.prog w = .ok (.tuple #[.agg #[.int .i64 er], .bool true]) w := by kernel_rfl
theorem ta_no (w : World) : (Instr.typeAssert .nilIface 20 151 true).run Tryz.prog w = .ok (.tuple #[.agg #[.int .i64 0], .bool false]) w := by kernel_rfl

set_option maxHeartbeats 400000 in
theorem catch_giveup (b : Nat) (x er : Int) (w : World) (hc : w.cell? ⟨b, 0, none⟩ = some (.int .i64 x)) (hz : w.frozen? ⟨b, 0, none⟩ = false) (hp : b < w.heap.size) :
    CallsD Tryz.prog 131 #[.pointer (some ⟨b, 0, none⟩)] (.panicking [{ v := .iface 151 (.agg #[.int .i64 er]), recovered := false }]) w fun e u' w' =>
      e = .returned (.tuple #[]) ∧ u' = .panicking [{ v := .iface 151 (.agg #[.int .i64 er]), recovered := true }] ∧ w' = (w.setCell ⟨b, 0, none⟩ (.int .i64 er)).alloc (.cells #[.int .i64 er] 151) := by
  have hta := ta_yes er
  have hne : ¬ b = w.heap.size := by omega
  refine callsD_of_wpS Tryz.func131 rfl fun c₀ cs hu => ?_
  apply wpS_seq
  apply wpS_region
  simp [wpOpsS, go_sem, recoverD, hu, Tryz.ntmps131, Exit.thenS]
  refine wpS_of_wp ?_
  simp [Array.replicate]
  go_wp2
  exact ⟨rfl, _, rfl, _, by simp [results, Tryz.results131], rfl, rfl, rfl⟩

set_option maxHeartbeats 400000 in
theorem catch_idle (b : Nat) (w : World) :
    CallsD Tryz.prog 131 #[.pointer (some ⟨b, 0, none⟩)] .returning w fun e u' w' =>
      e = .returned (.tuple #[]) ∧ u' = .returning ∧ w' = w.alloc (.cells #[.int .i64 0] 151) := by
  have hta := ta_no
  refine callsD_of_wpS Tryz.func131 rfl fun c₀ cs hu => ?_
  apply wpS_seq
  apply wpS_region
  simp [wpOpsS, go_sem, recoverD, hu, Tryz.ntmps131, Exit.thenS]
  refine wpS_of_wp ?_
  simp [Array.replicate]
  go_wp2
  refine ⟨rfl, .returning, by cases c₀; simp_all, _, by simp [results, Tryz.results131], rfl, rfl, rfl⟩

theorem tn_no (l : List Int) (h : (tn l).2.2 ≠ 0) : (tn l).1 = 0 ∧ (tn l).2.1 = 0 := by
  cases l with
  | nil => exact ⟨rfl, rfl⟩
  | cons x r =>
    simp only [tn] at h ⊢
    repeat' split
    all_goals first | exact ⟨rfl, rfl⟩ | (exfalso; apply h; simp only [*, if_true, if_false]; done) | skip
    all_goals simp_all

/-- The world in which take calls its part: the error's cell, and the reader. -/
def tw (w : World) (bv : Value) : World := (w.alloc (.cells #[.int .i64 0] 32)).alloc (.cells #[bv, .int .i64 0] 154)
theorem tw_below (w : World) (bv : Value) : Below w.heap.size w (tw w bv) := ((Below.refl _ _).alloc (Nat.le_refl _) _).alloc (by simp) _
theorem tw_size (w : World) (bv : Value) : (tw w bv).heap.size = w.heap.size + 2 := by simp [tw]
theorem tw_at (w : World) (bv : Value) : AtR (tw w bv) (w.heap.size + 1) bv 0 := by
  have := heap_alloc_new (w.alloc (.cells #[.int .i64 0] 32)) (.cells #[bv, .int .i64 0] 154)
  simpa [AtR, tw] using this
theorem tw_err (w : World) (bv : Value) : (tw w bv).heap[w.heap.size]? = some (.cells #[.int .i64 0] 32 (0, 0)) := by
  rw [tw, Below.heap_alloc _ _ _ (by simp)]
  exact heap_alloc_new w _
theorem tw_sees {w : World} {bv : Value} {zs : List Int} (hs : Sees w .u8 bv zs) : SeesB (w.heap.size + 1) (tw w bv) .u8 bv zs :=
  (hs.upto.below (tw_below w bv) (Nat.le_refl _)).mono (by omega)

set_option maxHeartbeats 400000 in
theorem take30_no (ao : Option Addr) (len cap : Nat) (er : Int) (w : World)
    (hpart : Calls Tryz.prog 111 #[.pointer (some ⟨w.heap.size + 1, 0, none⟩)] (tw w (.slice ao len cap)) fun e w' => e = GiveUp er ∧ Below (w.heap.size + 1) (tw w (.slice ao len cap)) w') :
    Calls Tryz.prog 122 #[.slice ao len cap, .func (Fn.func 111) #[] #[]] w fun e w' => e = .returned (.tuple #[.int .i64 0, .int .i64 0, .int .i64 er]) ∧ Below w.heap.size w w' := by
  have hmf : ∀ (fn : Fn) (first cap : Array Value) (w : World), (Instr.makeFunc fn first cap).run Tryz.prog w = .ok (.func fn first cap) w := fun _ _ _ _ => rfl
  have HP := hide hpart
  clear hpart
  go_enter_defers Tryz.func122, Tryz.ntmps122
  go_wp2_with fail
  refine (unhide HP).mono ?_
  rintro e w1 ⟨rfl, hb1⟩
  have hbw : Below w.heap.size w w1 := (tw_below w _).trans (hb1.mono (by omega))
  have hce : w1.heap[w.heap.size]? = some (.cells #[.int .i64 0] 32 (0, 0)) := (hb1.block _ (by omega)).trans (tw_err w _)
  have hsz := lt_of_block hce
  refine leaves_cons (f := 131) (args := #[.pointer (some ⟨w.heap.size, 0, none⟩)]) (by simp) (by simp [go_sem]) ?_
  refine (catch_giveup w.heap.size 0 er _ (cell_of_one hce) (free_of_one hce) hsz).mono ?_
  rintro e u' w'' ⟨rfl, rfl, rfl⟩
  have hcell : ((w1.setCell ⟨w.heap.size, 0, none⟩ (.int .i64 er)).alloc (.cells #[.int .i64 er] 151)).cell? ⟨w.heap.size, 0, none⟩ = some (.int .i64 er) :=
    cell_of_one (t := 32) (by rw [Below.heap_alloc _ _ _ (by simpa [World.setCell] using hsz)]; exact one_setCell hce)
  simp [Leaves, settle, results, Tryz.results122, go_sem, hcell]
  exact (hbw.setCell (p := ⟨w.heap.size, 0, none⟩) (Nat.le_refl _) _).alloc (by simp [World.setCell]; omega) _

set_option maxHeartbeats 400000 in
theorem take30_ok (ao : Option Addr) (len cap : Nat) (k : Nat) (w : World) (Φ : Value → World → Prop)
    (h1 : ∀ x w j, Φ x w → Φ x (w.drewN j)) (h2 : ∀ x w' u, Φ x w' → Φ x (w'.setCell ⟨w.heap.size, 0, none⟩ u)) (h3 : ∀ x w o, Φ x w → Φ x (w.alloc o))
    (hpart : Calls Tryz.prog 111 #[.pointer (some ⟨w.heap.size + 1, 0, none⟩)] (tw w (.slice ao len cap)) fun e w' => ∃ x, e = .returned x ∧ AtR w' (w.heap.size + 1) (.slice ao len cap) k ∧ Below (w.heap.size + 1) (tw w (.slice ao len cap)) w' ∧ Φ x w') :
    Calls Tryz.prog 122 #[.slice ao len cap, .func (Fn.func 111) #[] #[]] w fun e w' => ∃ x, e = .returned (.tuple #[x, .int .i64 k, .int .i64 0]) ∧ Below w.heap.size w w' ∧ Φ x w' := by
  have hmf : ∀ (fn : Fn) (first cap : Array Value) (w : World), (Instr.makeFunc fn first cap).run Tryz.prog w = .ok (.func fn first cap) w := fun _ _ _ _ => rfl
  have HP := hide hpart
  have H1 := hide h1
  have H2 := hide h2
  have H3 := hide h3
  clear hpart h1 h2 h3
  go_enter_defers Tryz.func122, Tryz.ntmps122
  go_wp2_with fail
  refine (unhide HP).mono ?_
  clear HP
  rintro e w1 ⟨x, rfl, hat, hb1, hΦ⟩
  have HΦ := hide hΦ
  clear hΦ
  have hbw : Below w.heap.size w w1 := (tw_below w _).trans (hb1.mono (by omega))
  have hce : w1.heap[w.heap.size]? = some (.cells #[.int .i64 0] 32 (0, 0)) := (hb1.block _ (by omega)).trans (tw_err w _)
  have hsz := lt_of_block hce
  have c1 := cell_of_one hce
  have c2 := free_of_one hce
  have c3 := hat.c1
  have HC := hide hce
  have HT := hide hat
  clear hce hat
  go_wp2
  go_region
  go_wp2
  refine leaves_cons (f := 131) (args := #[.pointer (some ⟨w.heap.size, 0, none⟩)]) (by simp) (by simp [go_sem]) ?_
  refine (catch_idle w.heap.size _).mono ?_
  rintro e u' w'' ⟨rfl, rfl, rfl⟩
  have hcell : ((w1.setCell ⟨w.heap.size, 0, none⟩ (.int .i64 0)).drew.alloc (.cells #[.int .i64 0] 151)).cell? ⟨w.heap.size, 0, none⟩ = some (.int .i64 0) :=
    cell_of_one (t := 32) (by rw [Below.heap_alloc _ _ _ (by simpa [World.setCell] using hsz)]; exact one_setCell HC.out)
  have hbf : Below w.heap.size w ((w1.setCell ⟨w.heap.size, 0, none⟩ (.int .i64 0)).drew.alloc (.cells #[.int .i64 0] 151)) :=
    (hbw.setCell (p := ⟨w.heap.size, 0, none⟩) (Nat.le_refl _) _).drew.alloc (by simp [World.setCell]; omega) _
  have hΦ2 : Φ x ((w1.setCell ⟨w.heap.size, 0, none⟩ (.int .i64 0)).drew.alloc (.cells #[.int .i64 0] 151)) :=
    H3.out _ _ _ (H1.out _ _ 1 (H2.out _ _ _ HΦ.out))
  clear H1 H2 H3 HΦ hmf
  generalize (w1.setCell ⟨w.heap.size, 0, none⟩ (.int .i64 0)).drew.alloc (.cells #[.int .i64 0] 151) = wf at *
  simp [Leaves, settle, results, Tryz.results122, go_sem, hcell]
  exact ⟨hbf, hΦ2⟩

set_option maxHeartbeats 400000 in
/-- TakeNum. -/
theorem takeNum_any (bv : Value) (zs : List Int) (w : World) (hs : Sees w .u8 bv zs) (hby : Byt zs) (hm : zs.length ≤ 140737488355328) :
    Calls Tryz.prog 91 #[bv] w fun e w' => e = .returned (.tuple #[.int .i64 (tn zs).1, .int .i64 (tn zs).2.1, .int .i64 (tn zs).2.2]) ∧ Below w.heap.size w w' := by
  have hst := tw_sees hs
  have hnum := number_any (w.heap.size + 1) bv zs 0 (tw w bv) (tw_at w bv) hst hby hm (Nat.zero_le _)
  rw [List.drop_zero] at hnum
  obtain ⟨ao, cap, rfl, hlc, hnil, hc⟩ := hs
  have key : Calls Tryz.prog 122 #[.slice ao zs.length cap, .func (Fn.func 111) #[] #[]] w fun e w' => e = .returned (.tuple #[.int .i64 (tn zs).1, .int .i64 (tn zs).2.1, .int .i64 (tn zs).2.2]) ∧ Below w.heap.size w w' := by
    by_cases he : (tn zs).2.2 = 0
    · refine (take30_ok ao zs.length cap (tn zs).2.1 w (fun x _ => x = .int .i64 (tn zs).1) (fun _ _ _ h => h) (fun _ _ _ h => h) (fun _ _ _ h => h) (hnum.mono ?_)).mono ?_
      · rintro e w' ⟨h1, h2, _⟩
        obtain ⟨h3, h4, _⟩ := h2 he
        rw [Nat.zero_add] at h4
        exact ⟨_, h3, h4, h1, rfl⟩
      · rintro e w' ⟨x, rfl, hb, rfl⟩
        exact ⟨by rw [he], hb⟩
    · refine (take30_no ao zs.length cap (tn zs).2.2 w (hnum.mono ?_)).mono ?_
      · rintro e w' ⟨h1, _, h3⟩
        exact ⟨h3 he, h1⟩
      · rintro e w' ⟨rfl, hb⟩
        obtain ⟨e1, e2⟩ := tn_no zs he
        exact ⟨by rw [e1, e2]; rfl, hb⟩
  have HK := hide key
  clear key hst hnum hc
  go_enter Tryz.func91, Tryz.ntmps91
  go_wp2_with (go_at_call 122; refine (unhide HK).mono ?_; rintro e w1 ⟨rfl, hb⟩)
  go_ret3
  exact ⟨rfl, hb⟩

end Go.Proofs.YtggllgimlfchhabGreat
