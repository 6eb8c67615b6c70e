/- Several texts as one. -/
import Derived.Test.YtiijbklaapaheaaGreatKO
import Derived.Deep.RegionLaw
import Derived.Deep.AppendLies
import Derived.RangeFuncBox

/- The document's New. -/
namespace Go.Proofs.YtiijbklaapaheaaGreat
open Go.RowKit
set_option maxRecDepth 100000

set_option maxRecDepth 100000 in
set_option maxHeartbeats 400000 in
theorem rnew_arg (n : Int) (w : World) (h : ¬ (1 ≤ n ∧ n ≤ 1024)) :
    Calls Tryz.prog 5 #[.int .i64 n] w fun e w' => e = .returned (.tuple #[.pointer none, .int .i64 1]) ∧ w = w' := by
  have h' : n < 1 ∨ 1024 < n := by omega
  clear h
  rcases h' with h | h
  all_goals
    go_enter Tryz.func5, Tryz.ntmps5
    go_wp2
    go_ret2
    exact ⟨rfl, rfl⟩

theorem Tryz.info2F : (Tryz.prog.info? 2).map (fun i => (i.zero, i.size, i.bytes)) = some (some (.int .i64 0), 1, 8) := by kernel_rfl
theorem Tryz.info50 : (Tryz.prog.info? 50).map (fun i => (i.zero, i.size, i.bytes)) = some (some (.slice none 0 0), 1, 24) := by kernel_rfl

def zPg : Array Value := madeCells #[.bool false, .bool false, .slice none 0 0] (16 * 3)

theorem make16 (W : World) : (Instr.makeSlice 50 (.int .i64 16) (.int .i64 16)).run Tryz.prog W = .ok (.slice (some ⟨W.heap.size, 0, none⟩) 16 16) (W.alloc (.cells zPg 67)) := by
  obtain ⟨i6, hi6, hz60, hz61, hz62⟩ := info_parts Tryz.info67
  have h := run_make (P := Tryz.prog) W 50 67 i6 _ Tryz.underlying50 hi6 hz60 .i64 .i64 16 16 (by decide) (by decide) (by rw [hz62]; decide) (by decide)
  rw [hz61] at h
  exact h

/-- The document's flash while it is made: k of its n blocks are there. -/
structure NewAt (w wr : World) (gw hr n k : Nat) (v : Value) (pb : Nat → Nat) : Prop where
  st : wr.heap[hr]? = some (.cells #[v, .slice (some ⟨gw, 0, none⟩) n n, .int .i64 0, .int .i64 0, .bool false] 42 (0, 0))
  row : wr.ownsRow (hr + 1) 50 1 v k ((List.range k).map fun i => .slice (some ⟨pb i, 0, none⟩) 16 16)
  pgs : ∀ i, i < k → hr < pb i ∧ wr.heap[pb i]? = some (.cells zPg 67 (0, 0))
  wear : wr.heap[gw]? = some (.cells (madeCells #[.int .i64 0] n) 2 (0, 0))
  low : Below w.heap.size w wr

/-- A block more is made. -/
theorem NewAt.next {w wr w2 W : World} {hr n k gn cn : Nat} {ao : Option Addr} {ca : Nat} {pb : Nat → Nat} (H : NewAt w wr w.heap.size hr n k (.slice ao k ca) pb) (hlt : w.heap.size < hr)
    (hW : W = ((wr.alloc (.cells zPg 67)).alloc (.cells #[.slice (some ⟨wr.heap.size, 0, none⟩) 16 16] 50)).drew) (hg : W.grownBy w2 (Value.slice ao k ca).ownBlock)
    (ho : w2.ownsRow (hr + 1) 50 1 (.slice (some ⟨gn, 0, none⟩) (k + 1) cn) (k + 1) (((List.range k).map fun i => Value.slice (some ⟨pb i, 0, none⟩) 16 16) ++ [.slice (some ⟨wr.heap.size, 0, none⟩) 16 16])) :
    w2.heap[hr]? = some (.cells #[.slice ao k ca, .slice (some ⟨w.heap.size, 0, none⟩) n n, .int .i64 0, .int .i64 0, .bool false] 42 (0, 0)) ∧
      NewAt w (w2.setCell ⟨hr, 0, none⟩ (.slice (some ⟨gn, 0, none⟩) (k + 1) cn)) w.heap.size hr n (k + 1) (.slice (some ⟨gn, 0, none⟩) (k + 1) cn) (fun i => if i = k then wr.heap.size else pb i) := by
  have hBW : Below wr.heap.size wr W := by rw [hW]; exact (((Below.refl _ _).alloc (Nat.le_refl _) _).alloc (by simp) _).drew
  have hrow := own_below H.row hBW
  have keepq : ∀ (q : Nat) (c : Array Value) (t : TypeId) (fr : Nat × Nat), W.heap[q]? = some (.cells c t fr) → t ≠ 50 → w2.heap[q]? = some (.cells c t fr) := by
    intro q c t fr hq ht
    rw [hg.block q (Array.getElem?_eq_some_iff.1 hq).1 ?_, hq]
    intro e
    rcases hrow.2 with ⟨e', _⟩ | ⟨g, cap, cur, e', _, hh, _⟩
    · rw [e'] at e; simp [Value.ownBlock] at e
    · rw [e'] at e
      simp [Value.ownBlock] at e
      subst e
      rw [hq] at hh
      simp at hh
      exact ht hh.2.1
  have old : ∀ (q : Nat) (c : Array Value) (t : TypeId) (fr : Nat × Nat), wr.heap[q]? = some (.cells c t fr) → t ≠ 50 → w2.heap[q]? = some (.cells c t fr) := fun q c t fr hq ht => keepq q c t fr ((hBW.block q (Array.getElem?_eq_some_iff.1 hq).1).trans hq) ht
  have hst := old hr _ _ _ H.st (by decide)
  have hrl : hr < wr.heap.size := (Array.getElem?_eq_some_iff.1 H.st).1
  have hnew : w2.heap[wr.heap.size]? = some (.cells zPg 67 (0, 0)) := by
    refine keepq _ _ _ _ ?_ (by decide)
    rw [hW]
    show ((wr.alloc (.cells zPg 67)).alloc _).heap[wr.heap.size]? = _
    rw [heap_alloc_old _ _ (by simp)]
    exact heap_alloc_new _ _
  have hgn : hr + 1 ≤ gn := by
    rcases ho.2 with ⟨e, _⟩ | ⟨g, cap, cur, e, hb, _⟩
    · cases e
    · cases e; exact hb
  have other : ∀ q, q ≠ hr → (w2.setCell ⟨hr, 0, none⟩ (.slice (some ⟨gn, 0, none⟩) (k + 1) cn)).heap[q]? = w2.heap[q]? := fun q hq => Below.heap_setCell _ _ _ _ (by simpa using hq)
  refine ⟨hst, ?_, ?_, ?_, ?_, ?_⟩
  · obtain ⟨hl, hk⟩ := Array.getElem?_eq_some_iff.1 hst
    show (w2.heap.modify hr _)[hr]? = _
    rw [Array.getElem?_eq_getElem (by rw [Array.size_modify]; exact hl), Array.getElem_modify_self, hk]
    rfl
  · have hrows : ((List.range (k + 1)).map fun i => Value.slice (some ⟨if i = k then wr.heap.size else pb i, 0, none⟩) 16 16) = ((List.range k).map fun i => Value.slice (some ⟨pb i, 0, none⟩) 16 16) ++ [.slice (some ⟨wr.heap.size, 0, none⟩) 16 16] := by
      rw [List.range_succ, List.map_append]
      congr 1
      · apply List.map_congr_left
        intro i hi
        rw [if_neg (by have := List.mem_range.1 hi; omega)]
      · simp
    rw [hrows]
    exact ho.kept (grownBy_setCell' w2 hr _) (.inr (by simp [Value.ownBlock]; omega))
  · intro i hi
    by_cases c : i = k
    · subst c
      simp only [if_true]
      exact ⟨hrl, by rw [other _ (by omega)]; exact hnew⟩
    · simp only [c, if_false]
      obtain ⟨a, b⟩ := H.pgs i (by omega)
      exact ⟨a, by rw [other _ (by omega)]; exact old _ _ _ _ b (by decide)⟩
  · rw [other _ (by omega)]; exact old _ _ _ _ H.wear (by decide)
  · have h1 : Below w.heap.size w W := H.low.trans (hBW.mono H.low.size)
    exact (h1.grown hg h1.size (fun q hq => by have := own_base hrow q hq; omega)).setCell (p := ⟨hr, 0, none⟩) (by show w.heap.size ≤ hr; omega) _

/-- .. and when all are there, it is the document's flash, blank. -/
theorem NewAt.isRf {w wr : World} {hr n : Nat} {v : Value} {pb : Nat → Nat} (H : NewAt w wr w.heap.size hr n n v pb) (hlt : w.heap.size < hr) (h1 : 1 ≤ n) (h2 : n ≤ 1024) :
    ∃ gp cp, IsRf wr (fun k => k < w.heap.size) hr gp w.heap.size cp n pb (fun _ => 16) (fun _ _ => .slice none 0 0) (Fl.blank n) 0 := by
  rcases H.row.2 with ⟨_, e0⟩ | ⟨gp, cp, cur, rfl, hgp, hh, hcp, _⟩
  · omega
  refine ⟨gp, cp, ?_⟩
  have cellr : ∀ o, wr.cell? ⟨hr, o, none⟩ = (#[.slice (some ⟨gp, 0, none⟩) n cp, .slice (some ⟨w.heap.size, 0, none⟩) n n, .int .i64 0, .int .i64 0, .bool false] : Array Value)[o]? := fun o => by simp [World.cell?, H.st]
  refine { d1 := by omega, d2 := by omega, d3 := by omega, s1 := by show ¬ hr < _; omega, s2 := by show ¬ gp < _; omega, s3 := Nat.lt_irrefl _, le := h2, pos := h1, fitp := hcp, fitw := Nat.le_refl _, c0 := by rw [cellr]; rfl, c1 := by rw [cellr]; rfl, c2 := by rw [cellr]; rfl, c3 := by rw [cellr]; rfl, c4 := by rw [cellr]; rfl, frR := fun o => by simp [World.frozen?, H.st], frP := fun o => by simp [World.frozen?, hh], frW := fun o => by simp [World.frozen?, H.wear], wear := ?_, page := ?_, room := fun _ _ => Nat.le_refl _, away := ?_, cells := ?_, shape := fun _ _ _ _ => ⟨none, 0, 0, rfl⟩, bytes := fun _ _ _ _ c => (by cases c), keep := fun c => absurd rfl c, cnt0 := (by show (0 : Int) ≤ 0; omega), cnt1 := (by show (0 : Int) ≤ _; omega), full := fun _ _ _ _ c => (by cases c), stOk := fun _ _ _ _ => .inl rfl }
  · intro i hi
    have hi : i < n := hi
    have : wr.cell? ⟨w.heap.size, i, none⟩ = (madeCells #[.int .i64 0] n)[i]? := by simp [World.cell?, H.wear]
    rw [this, ← Array.getElem?_toList, toList_madeCells_one, List.getElem?_replicate, if_pos hi]
    rfl
  · intro i hi
    have hi : i < n := hi
    have := H.row.cellAt i (by omega)
    rw [this, List.getElem?_map, List.getElem?_range hi]
    rfl
  · intro i hi c
    obtain ⟨a, b⟩ := H.pgs i hi
    rcases c with c | c | c | c
    · omega
    · rw [c, hh] at b; simp at b
    · omega
    · have c : pb i < w.heap.size := c
      omega
  · intro i hi j hj
    obtain ⟨a, b⟩ := H.pgs i hi
    have hc : ∀ t, t < 16 * 3 → wr.cell? ⟨pb i, t, none⟩ = some ((#[.bool false, .bool false, .slice none 0 0] : Array Value)[t % 3]!) := by
      intro t ht
      have e : wr.cell? ⟨pb i, t, none⟩ = zPg[t]? := by simp [World.cell?, b]
      rw [e, ← Array.getElem?_toList]
      exact made_at3 t ht
    refine ⟨?_, ?_, ?_⟩
    · rw [hc _ (by omega), show j * 3 % 3 = 0 by omega]; rfl
    · rw [hc _ (by omega), show (j * 3 + 1) % 3 = 1 by omega]; rfl
    · rw [hc _ (by omega), show (j * 3 + 2) % 3 = 2 by omega]; rfl

set_option maxRecDepth 100000 in
set_option maxHeartbeats 1600000 in
theorem rnew_ok (n : Nat) (w : World) (h1 : 1 ≤ n) (h2 : n ≤ 1024) :
    Calls Tryz.prog 5 #[.int .i64 n] w fun e w' => ∃ hr gp gw cp cw pb cb bv, e = .returned (.tuple #[P0 hr, .int .i64 0]) ∧ IsRf w' (fun k => k < w.heap.size) hr gp gw cp cw pb cb bv (Fl.blank n) 0 ∧ Below w.heap.size w w' := by
  obtain ⟨i2, hi2, hz20, hz21, hz22⟩ := info_parts Tryz.info2F
  go_enter Tryz.func5, Tryz.ntmps5
  go_wp2_with (at_make; refine wpList_make_full _ rfl _ _ 40 rfl w.heap.size 2 i2 (.int .i64 0) 1 Tryz.underlying40 hi2 hz20 hz21 _ _ _ _ n rfl rfl rfl rfl ?b2 ?b3 (Nat.le_refl _) ?_)
  case b2 => rw [hz22]; omega
  case b3 => unfold maxLen; omega
  intro w1 ho hg
  obtain ⟨i7, hi7, hz70, hz71, hz72⟩ := info_parts Tryz.info50
  have hw1 : w.heap.size < w1.heap.size := by
    rcases ho.2 with ⟨e, _⟩ | ⟨g, cap, cur, e, _, hh, _⟩
    · cases e
    · cases e; exact (Array.getElem?_eq_some_iff.1 hh).1
  have hN0 : NewAt w (w1.alloc (.cells #[.slice none 0 0, .slice (some ⟨w.heap.size, 0, none⟩) n n, .int .i64 0, .int .i64 0, .bool false] 42)) w.heap.size w1.heap.size n 0 (.slice none 0 0) (fun _ => 0) := by
    refine ⟨heap_alloc_new _ _, World.ownsRow_nil _ _ _ _, fun i hi => absurd hi (Nat.not_lt_zero _), ?_, ((Below.refl _ _).grown hg (Nat.le_refl _) (fun k h => by cases h)).alloc hg.size _⟩
    rw [heap_alloc_old _ _ hw1]
    rcases ho.2 with ⟨e, _⟩ | ⟨g, cap, cur, e, _, hh, _, _, hs, hc⟩
    · cases e
    · cases e
      rw [hh]
      have : cur = madeCells #[.int .i64 0] n := by
        apply Array.toList_inj.1
        rw [← hc, List.take_of_length_le (by rw [Array.length_toList, hs]; exact Nat.le_refl _)]
      rw [this]
  obtain ⟨hr, hhr⟩ : ∃ hr, w1.heap.size = hr := ⟨_, rfl⟩
  have hlow : w.heap.size < hr := by omega
  rw [hhr] at hN0
  have HN := hide hN0
  clear hN0 ho hg
  go_wp2
  generalize w1.alloc _ = W0 at HN ⊢
  go_loopw [5] (fun c wr => ∃ k : Nat, k ≤ n ∧ c = .int .i64 k ∧ ∃ v pb, NewAt w wr w.heap.size hr n k v pb) (fun c _ => n - (intOf c).toNat)
  case atStart => exact ⟨0, by omega, rfl, _, _, unhide HN⟩
  case round =>
    obtain ⟨k, hk, rfl, v, pb, hNk⟩ := hrel
    have c0 : wr.cell? ⟨hr, 0, none⟩ = some v := by simp [World.cell?, hNk.st]
    have f0 : wr.frozen? ⟨hr, 0, none⟩ = false := by simp [World.frozen?, hNk.st]
    have hlt0 : hr < wr.heap.size := (Array.getElem?_eq_some_iff.1 hNk.st).1
    obtain ⟨ao, ca, rfl⟩ := own_shape2 hNk.row
    have HK := hide hNk
    clear hNk
    by_cases hlt : k < n
    · have hmk := make16
      go_wp2_with fail
      have HW : Hid ((((wr.alloc (.cells zPg 67)).alloc (.cells #[.slice (some ⟨wr.heap.size, 0, none⟩) 16 16] 50)).drew).ownsRow (hr + 1) 50 1 (.slice ao k ca) k ((List.range k).map fun i => .slice (some ⟨pb i, 0, none⟩) 16 16)) :=
        own_below (unhide HK).row (((Below.refl _ _).alloc (Nat.le_refl _) _).alloc (by simp) _).drew
      have HQ : Hid (∀ j u, [Value.slice (some ⟨wr.heap.size, 0, none⟩) 16 16][j]? = some u → (((wr.alloc (.cells zPg 67)).alloc (.cells #[.slice (some ⟨wr.heap.size, 0, none⟩) 16 16] 50)).drew).cell? ((⟨wr.heap.size + 1, 0, none⟩ : Addr).add j) = some u) := by
        have := heap_alloc_new (wr.alloc (.cells zPg 67)) (.cells #[.slice (some ⟨wr.heap.size, 0, none⟩) 16 16] 50)
        rw [World.size_alloc] at this
        exact World.news_of_block (w := ((wr.alloc (.cells zPg 67)).alloc (.cells #[.slice (some ⟨wr.heap.size, 0, none⟩) 16 16] 50)).drew) this
      have HZ : Hid ((((wr.alloc (.cells zPg 67)).alloc (.cells #[.slice (some ⟨wr.heap.size, 0, none⟩) 16 16] 50)).drew).heap.size = wr.heap.size + 2) := by
        show ((wr.alloc (.cells zPg 67)).alloc (.cells #[.slice (some ⟨wr.heap.size, 0, none⟩) 16 16] 50)).heap.size = _
        simp
      go_region_law ((refine step_append_lies _ (by rfl) _ _ _ (by rfl) (hr + 1) 50 i7 (.slice none 0 0) 1 24 Tryz.underlying39 hi7 hz70 hz71 hz72 rfl (by decide) _ k _ (by rfl) (unhide HW) ⟨wr.heap.size + 1, 0, none⟩ 1 1 _ (by rfl) (by rfl) (unhide HQ) (by intro u hu; simp at hu; subst hu; rfl) (by decide) (by unfold maxLen; omega) (by omega) (by rw [unhide HZ]; omega) (wr.heap.size + 2) (unhide HZ) ?_; intro gn cn w2 hown hgrow hat hltn; have HX := hide (NewAt.next (unhide HK) (by omega) rfl hgrow hown); have d0 : w2.cell? ⟨hr, 0, none⟩ = some (.slice ao k ca) := (by simp [World.cell?, (unhide HX).1]); have d1 : w2.frozen? ⟨hr, 0, none⟩ = false := (by simp [World.frozen?, (unhide HX).1]); clear hgrow hown hat))
      all_goals
        clear hmk HW HQ HZ d0 d1
        go_wp2
        go_roundw
        case rel => exact ⟨k + 1, by omega, by go_num, _, _, (unhide HX).2⟩
        case measure => simp [intOf]; omega
    · obtain rfl : k = n := by omega
      go_wp2
      go_ret2
      obtain ⟨gp, cp, hI⟩ := (unhide HK).isRf (by omega) h1 h2
      exact ⟨_, gp, _, cp, _, _, _, _, rfl, hI, (unhide HK).low⟩
end Go.Proofs.YtiijbklaapaheaaGreat

/- Both flashes side by side. -/
namespace Go.Proofs.YtiijbklaapaheaaGreat
open Go.RowKit
set_option maxRecDepth 100000

/-- What the document's flash keeps clear of may be named otherwise where nothing lies. -/
theorem IsRf.widen {w : World} {S : Nat → Prop} {hr gp gw cp cw : Nat} {pb cb : Nat → Nat} {bv : Nat → Nat → Value} {F : Fl} {kp : Int} (H : IsRf w S hr gp gw cp cw pb cb bv F kp) (S' : Nat → Prop) (hS : ∀ k, k < w.heap.size → S' k → S k) : IsRf w S' hr gp gw cp cw pb cb bv F kp := by
  obtain ⟨l1, l2, l3, l4⟩ := H.rlt
  have three : ∀ k, k < w.heap.size → Three hr gp gw S' k → Three hr gp gw S k := by
    intro k hk c
    rcases c with c | c | c | c
    · exact .inl c
    · exact .inr (.inl c)
    · exact .inr (.inr (.inl c))
    · exact .inr (.inr (.inr (hS k hk c)))
  exact { H with
    s1 := fun c => H.s1 (hS _ l1 c), s2 := fun c => H.s2 (hS _ l2 c), s3 := fun c => H.s3 (hS _ l3 c)
    away := fun i hi c => H.away i hi (three _ (l4 i hi) c)
    bytes := fun i j hi hj h2 => by
      refine ⟨(H.bytes i j hi hj h2).1, fun a l c e d => ?_⟩
      refine (H.bytes i j hi hj h2).2 a l c e (three _ ?_ d)
      obtain ⟨ao, cap, e', hl, hn, ha⟩ := (H.bytes i j hi hj h2).1
      rw [e] at e'
      cases e'
      have hc := ha a rfl 0 (by have := H.full i j hi hj h2; simp [bytesOf]; omega)
      have hb := World.block_lt_of_cell? w _ hc
      have : (a.add 0).block = a.block := by (unfold Addr.add; split <;> simp_all)
      rwa [this] at hb }

/-- The flash F, and the document's beside it; all that lies below B is neither's. -/
structure Jt (w : World) (B g h cap hr gp gw cp cw : Nat) (S : Nat → Prop) (F : Fl) : Prop where
  fl : IsFl w g h cap F
  rf : IsRfE w S hr gp gw cp cw F
  inh : ∀ k, S k → k < w.heap.size
  sg : S g
  sh : S h
  low : ∀ k, k < B → S k
  bg : B ≤ g
  bh : B ≤ h

theorem Jt.apart {w : World} {B g h cap hr gp gw cp cw : Nat} {S : Nat → Prop} {F : Fl} (J : Jt w B g h cap hr gp gw cp cw S F) : ∀ k, S k → ¬ OnlyRf hr gp gw k := by
  obtain ⟨pb, cb, bv, kp, H⟩ := J.rf
  rintro k hk (rfl | rfl | rfl)
  · exact H.s1 hk
  · exact H.s2 hk
  · exact H.s3 hk

/-- Only new blocks. -/
theorem Jt.below {w w' : World} {B g h cap hr gp gw cp cw : Nat} {S : Nat → Prop} {F : Fl} (J : Jt w B g h cap hr gp gw cp cw S F) (hb : Below w.heap.size w w') : Jt w' B g h cap hr gp gw cp cw S F := by
  obtain ⟨pb, cb, bv, kp, H⟩ := J.rf
  exact ⟨J.fl.below hb, ⟨pb, cb, bv, kp, H.below hb⟩, fun k hk => Nat.lt_of_lt_of_le (J.inh k hk) hb.size, J.sg, J.sh, J.low, J.bg, J.bh⟩

/-- The flash's own call: the document's flash stands. -/
theorem Jt.half {w w1 : World} {B g h cap hr gp gw cp cw : Nat} {S : Nat → Prop} {F : Fl} (J : Jt w B g h cap hr gp gw cp cw S F) (hU : Upd (Two g h) w.heap.size w w1) :
    ∃ pb cb bv kp, IsRf w1 S hr gp gw cp cw pb cb bv F kp ∧ (∀ k, S k → k < w1.heap.size) ∧ Below B w w1 := by
  obtain ⟨pb, cb, bv, kp, H⟩ := J.rf
  refine ⟨pb, cb, bv, kp, H.upd hU (Nat.le_refl _) ?_, fun k hk => Nat.lt_of_lt_of_le (J.inh k hk) hU.size, hU.below ?_ ?_⟩
  · rintro k _ (rfl | rfl)
    · exact J.sg
    · exact J.sh
  · have := J.bg; have := J.fl.glt; omega
  · rintro k hk (rfl | rfl)
    · have := J.bg; omega
    · have := J.bh; omega

/-- .. and then the document's. -/
theorem Jt.whole {w w1 w2 : World} {B g h cap hr gp gw cp cw : Nat} {S : Nat → Prop} {F F1 : Fl} (J : Jt w B g h cap hr gp gw cp cw S F) (hsz : w.heap.size ≤ w1.heap.size) (hI : IsFl w1 g h cap F1) (hR : IsRfE w2 S hr gp gw cp cw F1) (hU : Upd (OnlyRf hr gp gw) w1.heap.size w1 w2) :
    Jt w2 B g h cap hr gp gw cp cw S F1 ∧ Below B w1 w2 := by
  have hap := J.apart
  refine ⟨⟨hI.upd hU (Nat.le_refl _) (hap g J.sg) (hap h J.sh), hR, fun k hk => ?_, J.sg, J.sh, J.low, J.bg, J.bh⟩, hU.below ?_ ?_⟩
  · have := J.inh k hk; have := hU.size; omega
  · have := J.bg; have := J.fl.glt; omega
  · exact fun k hk c => hap k (J.low k hk) c

/-- Another flash of the same contents, of new blocks, takes the flash's place. -/
theorem Jt.swap {w w' : World} {B g h cap hr gp gw cp cw g' h' cap' : Nat} {S : Nat → Prop} {F : Fl} (J : Jt w B g h cap hr gp gw cp cw S F) (hb : Below w.heap.size w w') (hI : IsFl w' g' h' cap' F) (hg : w.heap.size ≤ g') (hh : w.heap.size ≤ h') :
    Jt w' B g' h' cap' hr gp gw cp cw (fun k => S k ∨ (w.heap.size ≤ k ∧ k < w'.heap.size)) F := by
  obtain ⟨pb, cb, bv, kp, H⟩ := J.rf
  have H' : IsRf w (fun k => S k ∨ (w.heap.size ≤ k ∧ k < w'.heap.size)) hr gp gw cp cw pb cb bv F kp := H.widen _ (fun k hk c => c.elim id (fun c => absurd hk (by omega)))
  refine ⟨hI, ⟨pb, cb, bv, kp, H'.below hb⟩, fun k c => ?_, .inr ⟨hg, hI.glt⟩, .inr ⟨hh, hI.hlt⟩, fun k hk => .inl (J.low k hk), ?_, ?_⟩
  · rcases c with c | c
    · have := J.inh k c; have := hb.size; omega
    · exact c.2
  · have := J.bg; have := J.fl.glt; omega
  · have := J.bh; have := J.fl.hlt; omega

end Go.Proofs.YtiijbklaapaheaaGreat
