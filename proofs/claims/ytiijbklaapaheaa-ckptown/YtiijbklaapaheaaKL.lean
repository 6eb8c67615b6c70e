/- Several texts as one. -/
import Derived.Test.YtiijbklaapaheaaW5
import Derived.Deep.RegionWith
import Derived.Defers
import Derived.Recover
import Derived.Laws.Pointers

/- Contracts of the reader: next, low, number, told of what the reader sees. -/
namespace Go.Proofs.Ytiijbklaapaheaa
open Go.RowKit
set_option maxRecDepth 100000

/-- A reader: the bytes that it reads, and how far it is. -/
def AtR (w : World) (R : Nat) (v : Value) (p : Nat) : Prop := w.heap[R]? = some (.cells #[v, .int .i64 p] 145 (0, 0))
theorem AtR.c0 {w : World} {R : Nat} {v : Value} {p : Nat} (h : AtR w R v p) : w.cell? ⟨R, 0, none⟩ = some v := by rw [cell_of_row w R 0 _ _ _ h]; rfl
theorem AtR.c1 {w : World} {R : Nat} {v : Value} {p : Nat} (h : AtR w R v p) : w.cell? ⟨R, 1, none⟩ = some (.int .i64 p) := by rw [cell_of_row w R 1 _ _ _ h]; rfl
theorem AtR.f1 {w : World} {R : Nat} {v : Value} {p : Nat} (h : AtR w R v p) : w.frozen? ⟨R, 1, none⟩ = false := frozen_of_row w R 1 _ _ h
theorem AtR.set {w : World} {R : Nat} {v : Value} {p : Nat} (h : AtR w R v p) (j k q : Nat) : AtR (((w.drewN j).setCell ⟨R, 1, none⟩ (.int .i64 q)).drewN k) R v q := by
  have h' : (w.drewN j).heap[R]? = some (.cells #[v, .int .i64 p] 145 (0, 0)) := h
  have := heap_setCell_same (w.drewN j) R 1 _ 145 (.int .i64 q) h'
  exact this
theorem below_set (w : World) (R : Nat) (x : Value) (j k : Nat) : Below R w (((w.drewN j).setCell ⟨R, 1, none⟩ x).drewN k) := by
  have h1 : Below R w (w.drewN j) := below_drewN (Below.refl _ _) j
  exact below_drewN (h1.setCell (p := ⟨R, 1, none⟩) (Nat.le_refl _) x) k

/-- Nothing has turned but the reader, and no block is new. -/
def OnlyR (R : Nat) (w w' : World) : Prop := w'.heap.size = w.heap.size ∧ ∀ k, k ≠ R → w'.heap[k]? = w.heap[k]?
theorem OnlyR.trans {R : Nat} {a b c : World} (h : OnlyR R a b) (g : OnlyR R b c) : OnlyR R a c := ⟨g.1.trans h.1, fun k hk => (g.2 k hk).trans (h.2 k hk)⟩
theorem onlyR_set (w : World) (R : Nat) (x : Value) (j k : Nat) : OnlyR R w (((w.drewN j).setCell ⟨R, 1, none⟩ x).drewN k) :=
  ⟨by simp [World.setCell], fun i hi => Below.heap_setCell (w.drewN j) ⟨R, 1, none⟩ x i hi⟩

/-- How a reader gives up. -/
def GiveUp (er : Int) : Ending := .panicked [{ v := .iface 142 (.agg #[.int .i64 er]), recovered := false }]

theorem next_ok (R : Nat) (v : Value) (zs : List Int) (p k : Nat) (n : Int) (w : World) (hn : n = k) (hat : AtR w R v p) (hs : SeesB R w .u8 v zs) (hm : zs.length ≤ 9223372036854775807) (hp : p + k ≤ zs.length) :
    Calls Try.prog 90 #[.pointer (some ⟨R, 0, none⟩), .int .i64 n] w fun e w' => ∃ rv, e = .returned rv ∧ SeesB R w' .u8 rv ((zs.drop p).take k) ∧ AtR w' R v (p + k) ∧ Below R w w' ∧ OnlyR R w w' := by
  subst hn
  have hs0 := hs
  obtain ⟨ao, cap, rfl, hlc, hnil, hc⟩ := hs
  refine (next_cells R ao zs.length cap p k w hlc hm hp hat.c0 hat.c1 hat.f1).mono ?_
  rintro e w' ⟨rfl, i, j, rfl⟩
  refine ⟨_, rfl, ?_, hat.set _ _ _, below_set _ _ _ _ _, onlyR_set _ _ _ _ _⟩
  rw [show p + k - p = k by omega]
  exact (hs0.cut p k hp).below (below_set _ _ _ _ _) (Nat.le_refl _)

theorem next_no (R : Nat) (v : Value) (zs : List Int) (p : Nat) (n : Int) (w : World) (hat : AtR w R v p) (hs : SeesB R w .u8 v zs) (hm : zs.length ≤ 9223372036854775807) (hp : p ≤ zs.length) (hn : (zs.length : Int) - p < n) :
    Calls Try.prog 90 #[.pointer (some ⟨R, 0, none⟩), .int .i64 n] w fun e w' => e = GiveUp 10 ∧ Below R w w' := by
  obtain ⟨ao, cap, rfl, hlc, hnil, hc⟩ := hs
  refine (next_short R ao zs.length cap p n w hm hp hn hat.c0 hat.c1).mono ?_
  rintro e w' ⟨rfl, rfl⟩
  exact ⟨rfl, (Below.refl _ _).drew⟩

/-- What a number's k bytes say, laid one above the other. -/
theorem valL_take_snoc (l : List Int) (k : Nat) (h : k < l.length) : valL (l.take (k + 1)) = valL (l.take k) + l.getD k 0 * B256 k := by
  rw [take_snoc l k h, valL_snoc]
  simp only [List.length_take, Nat.min_eq_left (Nat.le_of_lt h)]

theorem or_step (l : List Int) (hb : Byt l) (k : Nat) (h : k < l.length) (h8 : l.length ≤ 8) : bits .or .u64 (valL (l.take k)) (l.getD k 0 * B256 k) = valL (l.take (k + 1)) := by
  have hv := valL_bound (l.take k) (hb.take k)
  have hl : (l.take k).length = k := by simp; omega
  rw [hl] at hv
  have hg := hb.get k
  rw [or_low _ _ k (by omega) hv.1 hv.2 hg.1 hg.2, valL_take_snoc l k h]

theorem shl_byte (x : Int) (k : Nat) (hx : 0 ≤ x) (hx2 : x ≤ 255) (hk : k ≤ 7) : IntKind.u64.wrap (x * 2 ^ (8 * k)) = x * B256 k := by
  have e : (2 : Int) ^ (8 * k) = B256 k := by rw [B256_eq]; simp
  rw [e, IntKind.wrap_u64]
  have hm : B256 (k + 1) ≤ B256 8 := B256_mono _ _ (by omega)
  rw [B256_8] at hm
  have hpos := B256_pos k
  have hxb : x * B256 k ≤ 255 * B256 k := Int.mul_le_mul_of_nonneg_right hx2 (by omega)
  have hx0 : 0 ≤ x * B256 k := Int.mul_nonneg hx (by omega)
  simp only [B256] at hm
  omega

set_option maxHeartbeats 800000 in
theorem low_ok (R : Nat) (v : Value) (zs : List Int) (p k : Nat) (n : Int) (w : World) (hn : n = k) (hat : AtR w R v p) (hs : SeesB R w .u8 v zs) (hby : Byt zs) (hm : zs.length ≤ 9223372036854775807) (hk : k ≤ 8) (hp : p + k ≤ zs.length) :
    Calls Try.prog 91 #[.pointer (some ⟨R, 0, none⟩), .int .i64 n] w fun e w' => e = .returned (.int .u64 (valL ((zs.drop p).take k))) ∧ AtR w' R v (p + k) ∧ Below R w w' ∧ OnlyR R w w' := by
  subst hn
  have hbb : Byt ((zs.drop p).take k) := (hby.drop p).take k
  have hlen : ((zs.drop p).take k).length = k := by simp; omega
  have hnx := next_ok R v zs p k _ w rfl hat hs hm hp
  generalize (zs.drop p).take k = bs at *
  subst hlen
  clear hat hs
  go_enter Try.func91, Try.ntmps91
  have HN := hide hnx
  clear hnx
  go_wp2_with (go_at_call 90; refine (unhide HN).mono ?_; rintro e w1 ⟨rv, rfl, hsr, hat1, hb1, hz1⟩; obtain ⟨ao, cap, rfl, hlc, hnil, hc⟩ := hsr)
  clear HN
  have HZ : Hid (OnlyR R w w1) := hz1
  clear hz1
  go_loop [5, 12] (fun u i => ∃ j : Nat, j ≤ bs.length ∧ i = .int .i64 j ∧ u = .int .u64 (valL (bs.take j))) (fun _ i => bs.length - (intOf i).toNat)
  case atStart => exact ⟨0, Nat.zero_le _, rfl, rfl⟩
  case round =>
    obtain ⟨j, hj, rfl, rfl⟩ := hrel
    by_cases hlt : j < bs.length
    · cases ao with
      | none => have := hnil rfl; omega
      | some a =>
        have hcj := (hc a rfl j hlt).1
        have hg := hbb.get j
        have hor := hide (or_step bs hbb j hlt hk)
        have hsh := hide (shl_byte (bs.getD j 0) j hg.1 hg.2 (by omega))
        clear hc hnil
        obtain ⟨hg1, hg2⟩ := hg
        generalize bs.getD j 0 = x at *
        go_wp2
        go_round
        case rel => exact ⟨j + 1, by omega, by go_num, by rw [hsh.out, hor.out]⟩
        case measure => simp [intOf]; omega
    · go_wp2
      go_ret
      obtain rfl : j = bs.length := by omega
      exact ⟨ret_int (by rw [List.take_length]), hat1, hb1, HZ.out⟩

set_option maxHeartbeats 400000 in
theorem low_no (R : Nat) (v : Value) (zs : List Int) (p : Nat) (n : Int) (w : World) (hat : AtR w R v p) (hs : SeesB R w .u8 v zs) (hm : zs.length ≤ 9223372036854775807) (hp : p ≤ zs.length) (hn : (zs.length : Int) - p < n) :
    Calls Try.prog 91 #[.pointer (some ⟨R, 0, none⟩), .int .i64 n] w fun e w' => e = GiveUp 10 ∧ Below R w w' := by
  have HN := hide (next_no R v zs p n w hat hs hm hp hn)
  clear hn
  go_enter Try.func91, Try.ntmps91
  go_wp2_with fail
  refine (unhide HN).mono ?_
  rintro e w1 ⟨rfl, hb⟩
  exact ⟨rfl, rfl, hb⟩

theorem next_one (R : Nat) (v : Value) (zs : List Int) (p : Nat) (h : Int) (w : World) (hat : AtR w R v p) (hs : SeesB R w .u8 v zs) (hm : zs.length ≤ 9223372036854775807) (hp : p < zs.length) (hh : zs.getD p 0 = h) :
    Calls Try.prog 90 #[.pointer (some ⟨R, 0, none⟩), .int .i64 1] w fun e w' => ∃ a cap, e = .returned (.slice (some a) 1 cap) ∧ w'.cell? a = some (.int .u8 h) ∧ AtR w' R v (p + 1) ∧ Below R w w' ∧ OnlyR R w w' := by
  refine (next_ok R v zs p 1 1 w rfl hat hs hm (by omega)).mono ?_
  rintro e w' ⟨rv, rfl, hsr, hat1, hb1, hz1⟩
  obtain ⟨ao, cap, rfl, hlc, hnil, hc⟩ := hsr
  have hl : ((zs.drop p).take 1).length = 1 := by simp; omega
  rw [hl] at hlc hc ⊢
  cases ao with
  | none => have := hnil rfl; omega
  | some a =>
    refine ⟨a, cap, rfl, ?_, hat1, hb1, hz1⟩
    have := (hc a rfl 0 (by omega)).1
    rw [show a.add 0 = a from rfl] at this
    rw [this, ← hh]
    simp [List.getD, hp]

end Go.Proofs.Ytiijbklaapaheaa

/- The contract of the reader's number. -/
namespace Go.Proofs.Ytiijbklaapaheaa
open Go.RowKit
set_option maxRecDepth 100000

theorem neg_u (u : Int) (h0 : 0 ≤ u) (h1 : u ≤ 9223372036854775808) : wrap64 (IntKind.u64.wrap (-u)) = -u := by
  rw [IntKind.wrap_u64]; unfold wrap64; omega

set_option maxHeartbeats 400000 in
theorem number_head (R : Nat) (v : Value) (zs : List Int) (p : Nat) (h : Int) (w : World) (hat : AtR w R v p) (hs : SeesB R w .u8 v zs) (hm : zs.length ≤ 9223372036854775807) (hp : p < zs.length) (hh : zs.getD p 0 = h) (h0 : 0 ≤ h) (h1 : h ≤ 255) (hbad : 17 < h ∨ h = 1) :
    Calls Try.prog 88 #[.pointer (some ⟨R, 0, none⟩)] w fun e w' => e = GiveUp 11 ∧ Below R w w' := by
  have HN := hide (next_one R v zs p h w hat hs hm hp hh)
  clear hh hat hs
  rcases hbad with hbad | rfl
  · go_enter Try.func88, Try.ntmps88
    go_wp2_with (go_at_call 90; refine (unhide HN).mono ?_; rintro e w1 ⟨a, cap, rfl, hc, hat1, hb1, hz1⟩)
    refine (must_no _ _).mono ?_
    rintro e w2 ⟨rfl, rfl⟩
    exact ⟨rfl, rfl, hb1⟩
  · go_enter Try.func88, Try.ntmps88
    go_wp2_with (go_at_call 90; refine (unhide HN).mono ?_; rintro e w1 ⟨a, cap, rfl, hc, hat1, hb1, hz1⟩)
    refine (must_no _ _).mono ?_
    rintro e w2 ⟨rfl, rfl⟩
    exact ⟨rfl, rfl, hb1⟩

set_option maxHeartbeats 400000 in
theorem number_end (R : Nat) (v : Value) (zs : List Int) (p : Nat) (w : World) (hat : AtR w R v p) (hs : SeesB R w .u8 v zs) (hm : zs.length ≤ 9223372036854775807) (hp : p = zs.length) :
    Calls Try.prog 88 #[.pointer (some ⟨R, 0, none⟩)] w fun e w' => e = GiveUp 10 ∧ Below R w w' := by
  have HN := hide (next_no R v zs p 1 w hat hs hm (by omega) (by omega))
  clear hp
  go_enter Try.func88, Try.ntmps88
  go_wp2_with fail
  refine (unhide HN).mono ?_
  rintro e w1 ⟨rfl, hb⟩
  exact ⟨rfl, rfl, hb⟩

set_option maxHeartbeats 400000 in
theorem number_short (R : Nat) (v : Value) (zs : List Int) (p : Nat) (h : Int) (w : World) (hat : AtR w R v p) (hs : SeesB R w .u8 v zs) (hm : zs.length ≤ 9223372036854775807) (hp : p < zs.length) (hh : zs.getD p 0 = h) (h0 : 0 ≤ h) (h17 : h ≤ 17) (hne : (h != 1) = true)
    (hsh : (zs.length : Int) - ((p + 1 : Nat) : Int) < h / 2) :
    Calls Try.prog 88 #[.pointer (some ⟨R, 0, none⟩)] w fun e w' => e = GiveUp 10 ∧ Below R w w' := by
  have HN := hide (next_one R v zs p h w hat hs hm hp hh)
  clear hh hat
  go_enter Try.func88, Try.ntmps88
  go_wp2_with (first
    | (go_at_call 90; refine (unhide HN).mono ?_; rintro e w1 ⟨a, cap, rfl, hc, hat1, hb1, hz1⟩; have HZ := hide hz1; clear hz1)
    | (go_at_call_of 89 (Value.bool true); refine (must_ok _ _).mono ?_; rintro e w2 ⟨rfl, rfl⟩))
  refine (low_no R v zs (p + 1) _ w1 hat1 (hs.below hb1 (Nat.le_refl _)) hm (by omega) hsh).mono ?_
  rintro e w2 ⟨rfl, hb2⟩
  exact ⟨rfl, rfl, hb1.trans hb2⟩

set_option maxHeartbeats 800000 in
theorem number_wide (R : Nat) (v : Value) (zs : List Int) (p : Nat) (h : Int) (k : Nat) (u : Int) (w : World) (hat : AtR w R v p) (hs : SeesB R w .u8 v zs) (hby : Byt zs) (hm : zs.length ≤ 9223372036854775807) (hh : zs.getD p 0 = h) (h0 : 0 ≤ h) (h17 : h ≤ 17) (hne : (h != 1) = true)
    (hk : h / 2 = k) (hp : p + 1 + k ≤ zs.length) (hu : valL ((zs.drop (p + 1)).take k) = u)
    (hw : ((wid u : Int) == h / 2) = false) :
    Calls Try.prog 88 #[.pointer (some ⟨R, 0, none⟩)] w fun e w' => e = GiveUp 11 ∧ Below R w w' := by
  have HN := hide (next_one R v zs p h w hat hs hm (by omega) hh)
  have HU := hide hu
  have HK := hide hk
  have hv := valL_bound ((zs.drop (p + 1)).take k) ((hby.drop _).take _)
  have hB : B256 ((zs.drop (p + 1)).take k).length ≤ B256 8 := B256_mono _ _ (by simp; omega)
  rw [B256_8] at hB
  rw [hu] at hv
  have hu0 : 0 ≤ u := hv.1
  have hu1 : u ≤ 18446744073709551615 := by omega
  clear hh hat hu hk hv hB
  go_enter Try.func88, Try.ntmps88
  go_wp2_with (first
    | (go_at_call 90; refine (unhide HN).mono ?_; rintro e w1 ⟨a, cap, rfl, hc, hat1, hb1, hz1⟩; have HZ := hide hz1; clear hz1)
    | (go_at_call_of 89 (Value.bool true); refine (must_ok _ _).mono ?_; rintro e w2 ⟨rfl, rfl⟩)
    | (go_at_call 91; refine (low_ok R v zs (p + 1) k _ w1 (unhide HK) hat1 (hs.below hb1 (Nat.le_refl _)) hby hm (by have := unhide HK; omega) hp).mono ?_; rintro e w2 ⟨rfl, hat2, hb2, hz2⟩; have HZ2 := hide hz2; clear hz2; rw [unhide HU])
    | (go_at_call 103; refine (wid_any _ hu0 hu1 _).mono ?_; rintro e w3 ⟨rfl, rfl⟩))
  refine (must_no _ _).mono ?_
  rintro e w4 ⟨rfl, rfl⟩
  exact ⟨rfl, rfl, hb1.trans hb2⟩

set_option maxHeartbeats 800000 in
theorem number_neg_no (R : Nat) (v : Value) (zs : List Int) (p : Nat) (h : Int) (k : Nat) (u : Int) (w : World) (hat : AtR w R v p) (hs : SeesB R w .u8 v zs) (hby : Byt zs) (hm : zs.length ≤ 9223372036854775807) (hh : zs.getD p 0 = h) (h0 : 0 ≤ h) (h17 : h ≤ 17) (hne : (h != 1) = true)
    (hk : h / 2 = k) (hp : p + 1 + k ≤ zs.length) (hu : valL ((zs.drop (p + 1)).take k) = u)
    (hw : ((wid u : Int) == h / 2) = true) (ho : (h % 2 == 1) = true) (hbig : 9223372036854775808 < u) :
    Calls Try.prog 88 #[.pointer (some ⟨R, 0, none⟩)] w fun e w' => e = GiveUp 11 ∧ Below R w w' := by
  have HN := hide (next_one R v zs p h w hat hs hm (by omega) hh)
  have HU := hide hu
  have HK := hide hk
  have hv := valL_bound ((zs.drop (p + 1)).take k) ((hby.drop _).take _)
  have hB : B256 ((zs.drop (p + 1)).take k).length ≤ B256 8 := B256_mono _ _ (by simp; omega)
  rw [B256_8] at hB
  rw [hu] at hv
  have hu0 : 0 ≤ u := hv.1
  have hu1 : u ≤ 18446744073709551615 := by omega
  clear hh hat hu hk hv hB
  go_enter Try.func88, Try.ntmps88
  go_wp2_with (first
    | (go_at_call 90; refine (unhide HN).mono ?_; rintro e w1 ⟨a, cap, rfl, hc, hat1, hb1, hz1⟩; have HZ := hide hz1; clear hz1)
    | (go_at_call_of 89 (Value.bool true); refine (must_ok _ _).mono ?_; rintro e w2 ⟨rfl, rfl⟩)
    | (go_at_call 91; refine (low_ok R v zs (p + 1) k _ w1 (unhide HK) hat1 (hs.below hb1 (Nat.le_refl _)) hby hm (by have := unhide HK; omega) hp).mono ?_; rintro e w2 ⟨rfl, hat2, hb2, hz2⟩; have HZ2 := hide hz2; clear hz2; rw [unhide HU])
    | (go_at_call 103; refine (wid_any _ hu0 hu1 _).mono ?_; rintro e w3 ⟨rfl, rfl⟩))
  rw [show decide (u ≤ 9223372036854775808) = false from decide_eq_false (by omega)]
  refine (must_no _ _).mono ?_
  rintro e w4 ⟨rfl, rfl⟩
  exact ⟨rfl, rfl, hb1.trans hb2⟩

set_option maxHeartbeats 800000 in
theorem number_pos_no (R : Nat) (v : Value) (zs : List Int) (p : Nat) (h : Int) (k : Nat) (u : Int) (w : World) (hat : AtR w R v p) (hs : SeesB R w .u8 v zs) (hby : Byt zs) (hm : zs.length ≤ 9223372036854775807) (hh : zs.getD p 0 = h) (h0 : 0 ≤ h) (h17 : h ≤ 17) (hne : (h != 1) = true)
    (hk : h / 2 = k) (hp : p + 1 + k ≤ zs.length) (hu : valL ((zs.drop (p + 1)).take k) = u)
    (hw : ((wid u : Int) == h / 2) = true) (ho : (h % 2 == 1) = false) (hbig : 9223372036854775808 ≤ u) :
    Calls Try.prog 88 #[.pointer (some ⟨R, 0, none⟩)] w fun e w' => e = GiveUp 11 ∧ Below R w w' := by
  have HN := hide (next_one R v zs p h w hat hs hm (by omega) hh)
  have HU := hide hu
  have HK := hide hk
  have hv := valL_bound ((zs.drop (p + 1)).take k) ((hby.drop _).take _)
  have hB : B256 ((zs.drop (p + 1)).take k).length ≤ B256 8 := B256_mono _ _ (by simp; omega)
  rw [B256_8] at hB
  rw [hu] at hv
  have hu0 : 0 ≤ u := hv.1
  have hu1 : u ≤ 18446744073709551615 := by omega
  clear hh hat hu hk hv hB
  go_enter Try.func88, Try.ntmps88
  go_wp2_with (first
    | (go_at_call 90; refine (unhide HN).mono ?_; rintro e w1 ⟨a, cap, rfl, hc, hat1, hb1, hz1⟩; have HZ := hide hz1; clear hz1)
    | (go_at_call_of 89 (Value.bool true); refine (must_ok _ _).mono ?_; rintro e w2 ⟨rfl, rfl⟩)
    | (go_at_call 91; refine (low_ok R v zs (p + 1) k _ w1 (unhide HK) hat1 (hs.below hb1 (Nat.le_refl _)) hby hm (by have := unhide HK; omega) hp).mono ?_; rintro e w2 ⟨rfl, hat2, hb2, hz2⟩; have HZ2 := hide hz2; clear hz2; rw [unhide HU])
    | (go_at_call 103; refine (wid_any _ hu0 hu1 _).mono ?_; rintro e w3 ⟨rfl, rfl⟩))
  rw [show decide (u < 9223372036854775808) = false from decide_eq_false (by omega)]
  refine (must_no _ _).mono ?_
  rintro e w4 ⟨rfl, rfl⟩
  exact ⟨rfl, rfl, hb1.trans hb2⟩

set_option maxHeartbeats 800000 in
theorem number_neg_ok (R : Nat) (v : Value) (zs : List Int) (p : Nat) (h : Int) (k : Nat) (u : Int) (w : World) (hat : AtR w R v p) (hs : SeesB R w .u8 v zs) (hby : Byt zs) (hm : zs.length ≤ 9223372036854775807) (hh : zs.getD p 0 = h) (h0 : 0 ≤ h) (h17 : h ≤ 17) (hne : (h != 1) = true)
    (hk : h / 2 = k) (hp : p + 1 + k ≤ zs.length) (hu : valL ((zs.drop (p + 1)).take k) = u)
    (hw : ((wid u : Int) == h / 2) = true) (ho : (h % 2 == 1) = true) (hsm : u ≤ 9223372036854775808) :
    Calls Try.prog 88 #[.pointer (some ⟨R, 0, none⟩)] w fun e w' => e = .returned (.int .i64 (-u)) ∧ AtR w' R v (p + 1 + k) ∧ Below R w w' ∧ OnlyR R w w' := by
  have HN := hide (next_one R v zs p h w hat hs hm (by omega) hh)
  have HU := hide hu
  have HK := hide hk
  have hv := valL_bound ((zs.drop (p + 1)).take k) ((hby.drop _).take _)
  have hB : B256 ((zs.drop (p + 1)).take k).length ≤ B256 8 := B256_mono _ _ (by simp; omega)
  rw [B256_8] at hB
  rw [hu] at hv
  have hu0 : 0 ≤ u := hv.1
  have hu1 : u ≤ 18446744073709551615 := by omega
  clear hh hat hu hk hv hB
  go_enter Try.func88, Try.ntmps88
  go_wp2_with (first
    | (go_at_call 90; refine (unhide HN).mono ?_; rintro e w1 ⟨a, cap, rfl, hc, hat1, hb1, hz1⟩; have HZ := hide hz1; clear hz1)
    | (go_at_call_of 89 (Value.bool true); refine (must_ok _ _).mono ?_; rintro e w2 ⟨rfl, rfl⟩)
    | (go_at_call 91; refine (low_ok R v zs (p + 1) k _ w1 (unhide HK) hat1 (hs.below hb1 (Nat.le_refl _)) hby hm (by have := unhide HK; omega) hp).mono ?_; rintro e w2 ⟨rfl, hat2, hb2, hz2⟩; have HZ2 := hide hz2; clear hz2; rw [unhide HU])
    | (go_at_call 103; refine (wid_any _ hu0 hu1 _).mono ?_; rintro e w3 ⟨rfl, rfl⟩))
  go_ret
  exact ⟨ret_int (neg_u u hu0 hsm), hat2, hb1.trans hb2, (unhide HZ).trans (unhide HZ2)⟩

set_option maxHeartbeats 800000 in
theorem number_pos_ok (R : Nat) (v : Value) (zs : List Int) (p : Nat) (h : Int) (k : Nat) (u : Int) (w : World) (hat : AtR w R v p) (hs : SeesB R w .u8 v zs) (hby : Byt zs) (hm : zs.length ≤ 9223372036854775807) (hh : zs.getD p 0 = h) (h0 : 0 ≤ h) (h17 : h ≤ 17) (hne : (h != 1) = true)
    (hk : h / 2 = k) (hp : p + 1 + k ≤ zs.length) (hu : valL ((zs.drop (p + 1)).take k) = u)
    (hw : ((wid u : Int) == h / 2) = true) (ho : (h % 2 == 1) = false) (hsm : u < 9223372036854775808) :
    Calls Try.prog 88 #[.pointer (some ⟨R, 0, none⟩)] w fun e w' => e = .returned (.int .i64 u) ∧ AtR w' R v (p + 1 + k) ∧ Below R w w' ∧ OnlyR R w w' := by
  have HN := hide (next_one R v zs p h w hat hs hm (by omega) hh)
  have HU := hide hu
  have HK := hide hk
  have hv := valL_bound ((zs.drop (p + 1)).take k) ((hby.drop _).take _)
  have hB : B256 ((zs.drop (p + 1)).take k).length ≤ B256 8 := B256_mono _ _ (by simp; omega)
  rw [B256_8] at hB
  rw [hu] at hv
  have hu0 : 0 ≤ u := hv.1
  have hu1 : u ≤ 18446744073709551615 := by omega
  clear hh hat hu hk hv hB
  go_enter Try.func88, Try.ntmps88
  go_wp2_with (first
    | (go_at_call 90; refine (unhide HN).mono ?_; rintro e w1 ⟨a, cap, rfl, hc, hat1, hb1, hz1⟩; have HZ := hide hz1; clear hz1)
    | (go_at_call_of 89 (Value.bool true); refine (must_ok _ _).mono ?_; rintro e w2 ⟨rfl, rfl⟩)
    | (go_at_call 91; refine (low_ok R v zs (p + 1) k _ w1 (unhide HK) hat1 (hs.below hb1 (Nat.le_refl _)) hby hm (by have := unhide HK; omega) hp).mono ?_; rintro e w2 ⟨rfl, hat2, hb2, hz2⟩; have HZ2 := hide hz2; clear hz2; rw [unhide HU])
    | (go_at_call 103; refine (wid_any _ hu0 hu1 _).mono ?_; rintro e w3 ⟨rfl, rfl⟩))
  go_ret
  exact ⟨rfl, hat2, hb1.trans hb2, (unhide HZ).trans (unhide HZ2)⟩

/-- The number with which bytes begin, how many bytes it has, and what is wrong with them. -/
def tn : List Int → Int × Nat × Int
  | [] => (0, 0, 10)
  | h :: r =>
    if 17 < h ∨ h = 1 then (0, 0, 11)
    else if r.length < (h / 2).toNat then (0, 0, 10)
    else if wid (valL (r.take (h / 2).toNat)) ≠ (h / 2).toNat then (0, 0, 11)
    else if h % 2 = 1 then (if valL (r.take (h / 2).toNat) ≤ 9223372036854775808 then (-valL (r.take (h / 2).toNat), 1 + (h / 2).toNat, 0) else (0, 0, 11))
    else (if valL (r.take (h / 2).toNat) < 9223372036854775808 then (valL (r.take (h / 2).toNat), 1 + (h / 2).toNat, 0) else (0, 0, 11))

/-- What a reader's part answers: a value, and how far the reader is behind it; or it gives up. -/
def Reads (R : Nat) (v : Value) (p : Nat) (w : World) (er : Int) (k : Nat) (x : Value) (e : Ending) (w' : World) : Prop :=
  Below R w w' ∧ (er = 0 → e = .returned x ∧ AtR w' R v (p + k) ∧ OnlyR R w w') ∧ (er ≠ 0 → e = GiveUp er)

theorem reads_no {R : Nat} {v : Value} {p : Nat} {w : World} {er : Int} {k : Nat} {x : Value} {e : Ending} {w' : World} (hne : er ≠ 0) (h : e = GiveUp er ∧ Below R w w') : Reads R v p w er k x e w' :=
  ⟨h.2, fun h0 => absurd h0 hne, fun _ => h.1⟩

theorem number_any (R : Nat) (v : Value) (zs : List Int) (p : Nat) (w : World) (hat : AtR w R v p) (hs : SeesB R w .u8 v zs) (hby : Byt zs) (hm : zs.length ≤ 9223372036854775807) (hp : p ≤ zs.length) :
    Calls Try.prog 88 #[.pointer (some ⟨R, 0, none⟩)] w fun e w' => Reads R v p w (tn (zs.drop p)).2.2 (tn (zs.drop p)).2.1 (.int .i64 (tn (zs.drop p)).1) e w' := by
  by_cases hpl : p = zs.length
  · have ht : tn (zs.drop p) = (0, 0, 10) := by rw [List.drop_of_length_le (by omega)]; rfl
    rw [ht]
    exact (number_end R v zs p w hat hs hm (by omega)).mono fun e w' h => reads_no (by decide) h
  · have hd : zs.drop p = zs.getD p 0 :: zs.drop (p + 1) := by
      rw [List.drop_eq_getElem_cons (by omega)]; simp [List.getD, show p < zs.length by omega]
    have hg := hby.get p
    have hlen : (zs.drop (p + 1)).length = zs.length - (p + 1) := List.length_drop
    rw [hd]
    obtain ⟨h, hh⟩ : ∃ h, zs.getD p 0 = h := ⟨_, rfl⟩
    obtain ⟨k, hk⟩ : ∃ k, (h / 2).toNat = k := ⟨_, rfl⟩
    obtain ⟨u, hu⟩ : ∃ u, valL ((zs.drop (p + 1)).take k) = u := ⟨_, rfl⟩
    rw [hh] at hg ⊢
    simp only [tn, hk, hu, hlen]
    by_cases c1 : 17 < h ∨ h = 1
    · simp only [if_pos c1]
      exact (number_head R v zs p h w hat hs hm (by omega) hh hg.1 hg.2 c1).mono fun e w' h => reads_no (by decide) h
    have hne : (h != 1) = true := by rw [bne_iff_ne]; omega
    simp only [if_neg c1]
    by_cases c2 : zs.length - (p + 1) < k
    · simp only [if_pos c2]
      exact (number_short R v zs p h w hat hs hm (by omega) hh hg.1 (by omega) hne (by omega)).mono fun e w' h => reads_no (by decide) h
    simp only [if_neg c2]
    have hk2 : h / 2 = (k : Int) := by omega
    have hkk : p + 1 + k ≤ zs.length := by omega
    by_cases c3 : wid u ≠ k
    · simp only [if_pos c3]
      exact (number_wide R v zs p h k u w hat hs hby hm hh hg.1 (by omega) hne hk2 hkk hu (by rw [beq_eq_false_iff_ne]; omega)).mono fun e w' h => reads_no (by decide) h
    simp only [if_neg c3]
    have hw : ((wid u : Int) == h / 2) = true := by rw [beq_iff_eq]; omega
    by_cases c4 : h % 2 = 1
    · simp only [if_pos c4]
      have ho : (h % 2 == 1) = true := by rw [beq_iff_eq]; exact c4
      by_cases c5 : u ≤ 9223372036854775808
      · simp only [if_pos c5]
        refine (number_neg_ok R v zs p h k u w hat hs hby hm hh hg.1 (by omega) hne hk2 hkk hu hw ho c5).mono ?_
        rintro e w' ⟨rfl, h2, h3, h4⟩
        exact ⟨h3, fun _ => ⟨rfl, by rw [← Nat.add_assoc]; exact h2, h4⟩, fun h => absurd rfl h⟩
      · simp only [if_neg c5]
        exact (number_neg_no R v zs p h k u w hat hs hby hm hh hg.1 (by omega) hne hk2 hkk hu hw ho (by omega)).mono fun e w' h => reads_no (by decide) h
    · simp only [if_neg c4]
      have ho : (h % 2 == 1) = false := by rw [beq_eq_false_iff_ne]; exact c4
      by_cases c5 : u < 9223372036854775808
      · simp only [if_pos c5]
        refine (number_pos_ok R v zs p h k u w hat hs hby hm hh hg.1 (by omega) hne hk2 hkk hu hw ho c5).mono ?_
        rintro e w' ⟨rfl, h2, h3, h4⟩
        exact ⟨h3, fun _ => ⟨rfl, by rw [← Nat.add_assoc]; exact h2, h4⟩, fun h => absurd rfl h⟩
      · simp only [if_neg c5]
        exact (number_pos_no R v zs p h k u w hat hs hby hm hh hg.1 (by omega) hne hk2 hkk hu hw ho (by omega)).mono fun e w' h => reads_no (by decide) h

end Go.Proofs.Ytiijbklaapaheaa

/- Contracts of take's deferred function. -/
namespace Go.Proofs.Ytiijbklaapaheaa
open Go.RowKit
set_option maxRecDepth 100000

theorem ta_yes (er : Int) (w : World) : (Instr.typeAssert (.iface 142 (.agg #[.int .i64 er])) 20 142 true).run Try.prog w = .ok (.tuple #[.agg #[.int .i64 er], .bool true]) w := by kernel_rfl
theorem ta_no (w : World) : (Instr.typeAssert .nilIface 20 142 true).run Try.prog w = .ok (.tuple #[.agg #[.int .i64 0], .bool false]) w := by kernel_rfl

theorem tn_no (l : List Int) (h : (tn l).2.2 ≠ 0) : (tn l).1 = 0 ∧ (tn l).2.1 = 0 := by
  cases l with
  | nil => exact ⟨rfl, rfl⟩
  | cons x r =>
    simp only [tn] at h ⊢
    repeat' split
    all_goals first | exact ⟨rfl, rfl⟩ | (exfalso; apply h; simp only [*, if_true, if_false]; done) | skip
    all_goals simp_all

/-- The world in which take calls its part: the error's cell, and the reader. -/
def tw (w : World) (bv : Value) : World := (w.alloc (.cells #[.int .i64 0] 27)).alloc (.cells #[bv, .int .i64 0] 145)
theorem tw_below (w : World) (bv : Value) : Below w.heap.size w (tw w bv) := ((Below.refl _ _).alloc (Nat.le_refl _) _).alloc (by simp) _
theorem tw_size (w : World) (bv : Value) : (tw w bv).heap.size = w.heap.size + 2 := by simp [tw]
theorem tw_at (w : World) (bv : Value) : AtR (tw w bv) (w.heap.size + 1) bv 0 := by
  have := heap_alloc_new (w.alloc (.cells #[.int .i64 0] 27)) (.cells #[bv, .int .i64 0] 145)
  simpa [AtR, tw] using this
theorem tw_err (w : World) (bv : Value) : (tw w bv).heap[w.heap.size]? = some (.cells #[.int .i64 0] 27 (0, 0)) := by
  rw [tw, Below.heap_alloc _ _ _ (by simp)]
  exact heap_alloc_new w _
theorem tw_sees {w : World} {bv : Value} {zs : List Int} (hs : Sees w .u8 bv zs) : SeesB (w.heap.size + 1) (tw w bv) .u8 bv zs :=
  (hs.upto.below (tw_below w bv) (Nat.le_refl _)).mono (by omega)

end Go.Proofs.Ytiijbklaapaheaa
