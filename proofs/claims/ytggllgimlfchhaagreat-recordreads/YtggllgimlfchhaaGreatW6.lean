/- Contracts of the reader: next, low, number, told of what the reader sees. -/
import Derived.Test.YtggllgimlfchhaaGreatKT
namespace Go.Proofs.YtggllgimlfchhaaGreat
open Go.RowKit
set_option maxRecDepth 100000

/-- A reader: the bytes that it reads, and how far it is. -/
def AtR (w : World) (R : Nat) (v : Value) (p : Nat) : Prop := w.heap[R]? = some (.cells #[v, .int .i64 p] 169 (0, 0))
theorem AtR.c0 {w : World} {R : Nat} {v : Value} {p : Nat} (h : AtR w R v p) : w.cell? ⟨R, 0, none⟩ = some v := by rw [cell_of_row w R 0 _ _ _ h]; rfl
theorem AtR.c1 {w : World} {R : Nat} {v : Value} {p : Nat} (h : AtR w R v p) : w.cell? ⟨R, 1, none⟩ = some (.int .i64 p) := by rw [cell_of_row w R 1 _ _ _ h]; rfl
theorem AtR.f1 {w : World} {R : Nat} {v : Value} {p : Nat} (h : AtR w R v p) : w.frozen? ⟨R, 1, none⟩ = false := frozen_of_row w R 1 _ _ h
theorem AtR.set {w : World} {R : Nat} {v : Value} {p : Nat} (h : AtR w R v p) (j k q : Nat) : AtR (((w.drewN j).setCell ⟨R, 1, none⟩ (.int .i64 q)).drewN k) R v q := by
  have h' : (w.drewN j).heap[R]? = some (.cells #[v, .int .i64 p] 169 (0, 0)) := h
  have := heap_setCell_same (w.drewN j) R 1 _ 169 (.int .i64 q) h'
  exact this
theorem below_set (w : World) (R : Nat) (x : Value) (j k : Nat) : Below R w (((w.drewN j).setCell ⟨R, 1, none⟩ x).drewN k) := by
  have h1 : Below R w (w.drewN j) := below_drewN (Below.refl _ _) j
  exact below_drewN (h1.setCell (p := ⟨R, 1, none⟩) (Nat.le_refl _) x) k

/-- Nothing has turned but the reader, and no block is new. -/
def OnlyR (R : Nat) (w w' : World) : Prop := w'.heap.size = w.heap.size ∧ ∀ k, k ≠ R → w'.heap[k]? = w.heap[k]?
theorem OnlyR.trans {R : Nat} {a b c : World} (h : OnlyR R a b) (g : OnlyR R b c) : OnlyR R a c := ⟨g.1.trans h.1, fun k hk => (g.2 k hk).trans (h.2 k hk)⟩
theorem onlyR_set (w : World) (R : Nat) (x : Value) (j k : Nat) : OnlyR R w (((w.drewN j).setCell ⟨R, 1, none⟩ x).drewN k) :=
  ⟨by simp [World.setCell], fun i hi => Below.heap_setCell (w.drewN j) ⟨R, 1, none⟩ x i hi⟩

/-- How a reader gives up. -/
def GiveUp (er : Int) : Ending := .panicked [{ v := .iface 166 (.agg #[.int .i64 er]), recovered := false }]

theorem next_ok (R : Nat) (v : Value) (zs : List Int) (p k : Nat) (n : Int) (w : World) (hn : n = k) (hat : AtR w R v p) (hs : SeesB R w .u8 v zs) (hm : zs.length ≤ 140737488355328) (hp : p + k ≤ zs.length) :
    Calls Tryz.prog 143 #[.pointer (some ⟨R, 0, none⟩), .int .i64 n] w fun e w' => ∃ rv, e = .returned rv ∧ SeesB R w' .u8 rv ((zs.drop p).take k) ∧ AtR w' R v (p + k) ∧ Below R w w' ∧ OnlyR R w w' := by
  subst hn
  have hs0 := hs
  obtain ⟨ao, cap, rfl, hlc, hnil, hc⟩ := hs
  refine (next_cells R ao zs.length cap p k w hlc hm hp hat.c0 hat.c1 hat.f1).mono ?_
  rintro e w' ⟨rfl, i, j, rfl⟩
  refine ⟨_, rfl, ?_, hat.set _ _ _, below_set _ _ _ _ _, onlyR_set _ _ _ _ _⟩
  rw [show p + k - p = k by omega]
  exact (hs0.cut p k hp).below (below_set _ _ _ _ _) (Nat.le_refl _)

theorem next_no (R : Nat) (v : Value) (zs : List Int) (p : Nat) (n : Int) (w : World) (hat : AtR w R v p) (hs : SeesB R w .u8 v zs) (hm : zs.length ≤ 140737488355328) (hp : p ≤ zs.length) (hn : (zs.length : Int) - p < n) :
    Calls Tryz.prog 143 #[.pointer (some ⟨R, 0, none⟩), .int .i64 n] w fun e w' => e = GiveUp 10 ∧ Below R w w' := by
  obtain ⟨ao, cap, rfl, hlc, hnil, hc⟩ := hs
  refine (next_short R ao zs.length cap p n w hm hp hn hat.c0 hat.c1).mono ?_
  rintro e w' ⟨rfl, rfl⟩
  exact ⟨rfl, (Below.refl _ _).drew⟩

/-- What a number's k bytes say, laid one above the other. -/
theorem valL_take_snoc (l : List Int) (k : Nat) (h : k < l.length) : valL (l.take (k + 1)) = valL (l.take k) + l.getD k 0 * B256 k := by
  rw [take_snoc l k h, valL_snoc]
  simp only [List.length_take, Nat.min_eq_left (Nat.le_of_lt h)]

theorem or_step (l : List Int) (hb : Byt l) (k : Nat) (h : k < l.length) (h8 : l.length ≤ 8) : bits .or .u64 (valL (l.take k)) (l.getD k 0 * B256 k) = valL (l.take (k + 1)) := by
  have hv := valL_bound (l.take k) (hb.take k)
  have hl : (l.take k).length = k := by simp; omega
  rw [hl] at hv
  have hg := hb.get k
  rw [or_low _ _ k (by omega) hv.1 hv.2 hg.1 hg.2, valL_take_snoc l k h]

theorem shl_byte (x : Int) (k : Nat) (hx : 0 ≤ x) (hx2 : x ≤ 255) (hk : k ≤ 7) : IntKind.u64.wrap (x * 2 ^ (8 * k)) = x * B256 k := by
  have e : (2 : Int) ^ (8 * k) = B256 k := by rw [B256_eq]; simp
  rw [e, IntKind.wrap_u64]
  have hm : B256 (k + 1) ≤ B256 8 := B256_mono _ _ (by omega)
  rw [B256_8] at hm
  have hpos := B256_pos k
  have hxb : x * B256 k ≤ 255 * B256 k := Int.mul_le_mul_of_nonneg_right hx2 (by omega)
  have hx0 : 0 ≤ x * B256 k := Int.mul_nonneg hx (by omega)
  simp only [B256] at hm
  omega

set_option maxHeartbeats 800000 in
theorem low_ok (R : Nat) (v : Value) (zs : List Int) (p k : Nat) (n : Int) (w : World) (hn : n = k) (hat : AtR w R v p) (hs : SeesB R w .u8 v zs) (hby : Byt zs) (hm : zs.length ≤ 140737488355328) (hk : k ≤ 8) (hp : p + k ≤ zs.length) :
    Calls Tryz.prog 144 #[.pointer (some ⟨R, 0, none⟩), .int .i64 n] w fun e w' => e = .returned (.int .u64 (valL ((zs.drop p).take k))) ∧ AtR w' R v (p + k) ∧ Below R w w' ∧ OnlyR R w w' := by
  subst hn
  have hbb : Byt ((zs.drop p).take k) := (hby.drop p).take k
  have hlen : ((zs.drop p).take k).length = k := by simp; omega
  have hnx := next_ok R v zs p k _ w rfl hat hs hm hp
  generalize (zs.drop p).take k = bs at *
  subst hlen
  clear hat hs
  go_enter Tryz.func144, Tryz.ntmps144
  have HN := hide hnx
  clear hnx
  go_wp2_with (go_at_call 143; refine (unhide HN).mono ?_; rintro e w1 ⟨rv, rfl, hsr, hat1, hb1, hz1⟩; obtain ⟨ao, cap, rfl, hlc, hnil, hc⟩ := hsr)
  clear HN
  have HZ : Hid (OnlyR R w w1) := hz1
  clear hz1
  go_loop [5, 12] (fun u i => ∃ j : Nat, j ≤ bs.length ∧ i = .int .i64 j ∧ u = .int .u64 (valL (bs.take j))) (fun _ i => bs.length - (intOf i).toNat)
  case atStart => exact ⟨0, Nat.zero_le _, rfl, rfl⟩
  case round =>
    obtain ⟨j, hj, rfl, rfl⟩ := hrel
    by_cases hlt : j < bs.length
    · cases ao with
      | none => have := hnil rfl; omega
      | some a =>
        have hcj := (hc a rfl j hlt).1
        have hg := hbb.get j
        have hor := hide (or_step bs hbb j hlt hk)
        have hsh := hide (shl_byte (bs.getD j 0) j hg.1 hg.2 (by omega))
        clear hc hnil
        obtain ⟨hg1, hg2⟩ := hg
        generalize bs.getD j 0 = x at *
        go_wp2
        go_round
        case rel => exact ⟨j + 1, by omega, by go_num, by rw [hsh.out, hor.out]⟩
        case measure => simp [intOf]; omega
    · go_wp2
      go_ret
      obtain rfl : j = bs.length := by omega
      exact ⟨ret_int (by rw [List.take_length]), hat1, hb1, HZ.out⟩

set_option maxHeartbeats 400000 in
theorem low_no (R : Nat) (v : Value) (zs : List Int) (p : Nat) (n : Int) (w : World) (hat : AtR w R v p) (hs : SeesB R w .u8 v zs) (hm : zs.length ≤ 140737488355328) (hp : p ≤ zs.length) (hn : (zs.length : Int) - p < n) :
    Calls Tryz.prog 144 #[.pointer (some ⟨R, 0, none⟩), .int .i64 n] w fun e w' => e = GiveUp 10 ∧ Below R w w' := by
  have HN := hide (next_no R v zs p n w hat hs hm hp hn)
  clear hn
  go_enter Tryz.func144, Tryz.ntmps144
  go_wp2_with fail
  refine (unhide HN).mono ?_
  rintro e w1 ⟨rfl, hb⟩
  exact ⟨rfl, rfl, hb⟩

theorem next_one (R : Nat) (v : Value) (zs : List Int) (p : Nat) (h : Int) (w : World) (hat : AtR w R v p) (hs : SeesB R w .u8 v zs) (hm : zs.length ≤ 140737488355328) (hp : p < zs.length) (hh : zs.getD p 0 = h) :
    Calls Tryz.prog 143 #[.pointer (some ⟨R, 0, none⟩), .int .i64 1] w fun e w' => ∃ a cap, e = .returned (.slice (some a) 1 cap) ∧ w'.cell? a = some (.int .u8 h) ∧ AtR w' R v (p + 1) ∧ Below R w w' ∧ OnlyR R w w' := by
  refine (next_ok R v zs p 1 1 w rfl hat hs hm (by omega)).mono ?_
  rintro e w' ⟨rv, rfl, hsr, hat1, hb1, hz1⟩
  obtain ⟨ao, cap, rfl, hlc, hnil, hc⟩ := hsr
  have hl : ((zs.drop p).take 1).length = 1 := by simp; omega
  rw [hl] at hlc hc ⊢
  cases ao with
  | none => have := hnil rfl; omega
  | some a =>
    refine ⟨a, cap, rfl, ?_, hat1, hb1, hz1⟩
    have := (hc a rfl 0 (by omega)).1
    rw [show a.add 0 = a from rfl] at this
    rw [this, ← hh]
    simp [List.getD, hp]

end Go.Proofs.YtggllgimlfchhaaGreat
