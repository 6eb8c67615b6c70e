/- Several texts as one. -/
import Derived.Test.YtggllgimlfchhabGreatKZ31

/- Record: transactions, read. -/
namespace Go.Proofs.YtggllgimlfchhabGreat
open Go.RowKit
set_option maxRecDepth 100000

def txnCells (p : TxnD × Value × Value × Value × Value) : List Value := [.int .i64 p.1.ses, .int .i64 p.1.req, p.2.1, p.2.2.1, p.2.2.2.1, p.2.2.2.2]
/-- A slice of transactions in rows of one's own. -/
def OwnTs (base : Nat) (w : World) (x : Value) (l : List TxnD) : Prop :=
  ∃ vs : List (TxnD × Value × Value × Value × Value), vs.map (·.1) = l ∧ w.ownsRow base 70 6 x l.length (vs.flatMap txnCells) ∧ ∀ p ∈ vs, OwnT base w #[.int .i64 p.1.ses, .int .i64 p.1.req, p.2.1, p.2.2.1, p.2.2.2.1, p.2.2.2.2] p.1
theorem OwnTs.nil (base : Nat) (w : World) : OwnTs base w (.slice none 0 0) [] := ⟨[], rfl, World.ownsRow_nil _ _ _ _, fun p hp => by cases hp⟩
theorem OwnTs.shape {base : Nat} {w : World} {x : Value} {l : List TxnD} (h : OwnTs base w x l) : ∃ ao cap, x = .slice ao l.length cap := by
  obtain ⟨_, _, h1, _⟩ := h
  exact own_shapeN h1
theorem Tryz.info70 : (Tryz.prog.info? 70).map (fun i => (i.zero, i.size, i.bytes)) = some (some (.agg #[.int .i64 0, .int .i64 0, .slice none 0 0, .slice none 0 0, .slice none 0 0, .slice none 0 0]), 6, 112) := by kernel_rfl

set_option maxHeartbeats 3200000 in
theorem takeTxns_r {w : World} {R lo : Nat} {s : RS} (h : RdS w R lo s) :
    Calls Tryz.prog 60 #[.pointer (some ⟨R, 0, none⟩), .func (.func 61) #[.pointer (some ⟨R, 0, none⟩)] #[]] w fun e w' => ∃ x, e = .returned x ∧ OwnTs w.heap.size w' x (s.list RS.txn).1 ∧ RdS w' R lo (s.list RS.txn).2 ∧ But R w w' := by
  obtain ⟨i0, hi, hz0, hz1, hz2⟩ := info_parts Tryz.info70
  have HN := hide (num_r h)
  have HRl := hide h.rlt
  obtain ⟨n, hn⟩ : ∃ n, s.num.1 = n := ⟨_, rfl⟩
  obtain ⟨s1, hs1⟩ : ∃ s1, s.num.2 = s1 := ⟨_, rfl⟩
  obtain ⟨s2, hs2⟩ : ∃ s2, s.len = s2 := ⟨_, rfl⟩
  obtain ⟨RES, hRES⟩ : ∃ r, s.list RS.txn = r := ⟨_, rfl⟩
  have hm : s1.must (decide (0 ≤ n ∧ n ≤ 4096)) = s2 := by rw [← hn, ← hs1, ← hs2]; rfl
  have hl : RES = RS.iter RS.txn n.toNat s2 := by rw [← hRES, ← hs2, ← hn]; rfl
  have HLO : Hid (s2.er = 0 → 0 ≤ n ∧ n ≤ 4096) := fun e => by rw [← hs2] at e; rw [← hn]; exact len_ok e
  rw [hRES]
  rw [hn, hs1] at HN
  have HRES := hide hl
  have HM := hide hm
  clear h hn hs1 hs2 hRES hl hm
  go_enter Tryz.func60, Tryz.ntmps60
  go_wp2_with fail
  refine (unhide HN).mono ?_
  rintro e w1 ⟨rfl, h1, h2⟩
  obtain ⟨bb, hbb⟩ : ∃ b', decide (0 ≤ n ∧ n ≤ 4096) = b' := ⟨_, rfl⟩
  rw [hbb] at HM
  have HMu := hide (must_r h1 bb)
  rw [unhide HM] at HMu
  have HB1 := hide h2
  have hpass : (if 0 ≤ n then decide (n ≤ 4096) else false) = bb := by
    rw [← hbb]
    by_cases c : 0 ≤ n <;> simp [c]
  have HP := hide hpass
  clear h1 h2 HN hbb hpass HM
  have key : Calls Tryz.prog 89 #[.pointer (some ⟨R, 0, none⟩), .bool (if 0 ≤ n then decide (n ≤ 4096) else false)] w1 fun e w' => e = .returned (.tuple #[]) ∧ RdS w' R lo s2 ∧ But R w1 w' := by rw [unhide HP]; exact unhide HMu
  have HK : Hid (∀ b, (if 0 ≤ n then decide (n ≤ 4096) else false) = b → Calls Tryz.prog 89 #[.pointer (some ⟨R, 0, none⟩), .bool b] w1 fun e w' => e = .returned (.tuple #[]) ∧ RdS w' R lo s2 ∧ But R w1 w') := fun b hb => by rw [← hb]; exact key
  clear key HMu
  have fin : ∀ (wm : World), RdS wm R lo s2 → But R w wm → True := fun _ _ _ => trivial
  clear fin HP
  by_cases c1 : 0 ≤ n
  case neg =>
    go_wp2_with fail
    refine (unhide HK false (by rw [if_neg (by omega)])).mono ?_
    rintro e w2 ⟨rfl, h3, h4⟩
    have HF : Hid (OwnTs w.heap.size w2 (.slice none 0 0) RES.1 ∧ RdS w2 R lo RES.2 ∧ But R w w2) := by
      have e : RES = ([], s2) := by rw [unhide HRES, show n.toNat = 0 by omega]; rfl
      rw [e]
      exact ⟨OwnTs.nil _ _, h3, (unhide HB1).trans h4⟩
    clear h3 h4
    have c2 : ¬ (0 : Int) < n := by omega
    go_wp2
    go_loopw [6, 7] (fun v c wr => v = .slice none 0 0 ∧ c = .int .i64 0 ∧ wr = w2) (fun _ _ _ => 0)
    case atStart => exact ⟨rfl, rfl, rfl⟩
    case round =>
      obtain ⟨rfl, rfl, rfl⟩ := hrel
      go_wp2
      go_ret
      exact ⟨_, rfl, unhide HF⟩
  by_cases c2 : n ≤ 4096
  case neg =>
    have c2b : decide (n ≤ 4096) = false := decide_eq_false c2
    go_wp2_with fail
    refine (unhide HK false (by rw [if_pos (by omega), c2b])).mono ?_
    rintro e w2 ⟨rfl, h3, h4⟩
    have he2 : s2.er ≠ 0 := fun e => by have := (unhide HLO e).2; omega
    have HF : Hid (OwnTs w.heap.size w2 (.slice none 0 0) RES.1 ∧ RdS w2 R lo RES.2 ∧ But R w w2) := by
      have e := iter_stop (take := RS.txn) (k := 0) (s := s2) he2 n.toNat
      rw [Nat.zero_add, ← unhide HRES] at e
      rw [e]
      exact ⟨OwnTs.nil _ _, h3, (unhide HB1).trans h4⟩
    have g1 := h3.ce
    clear h3 h4
    generalize s2.er = er2 at g1 he2
    have he2b : (er2 == 0) = false := by simpa using he2
    go_wp2
    go_loopw [6, 7] (fun v c wr => v = .slice none 0 0 ∧ c = .int .i64 0 ∧ wr = w2) (fun _ _ _ => 0)
    case atStart => exact ⟨rfl, rfl, rfl⟩
    case round =>
      obtain ⟨rfl, rfl, rfl⟩ := hrel
      have c0 : (0 : Int) < n := by omega
      go_wp2
      go_ret
      exact ⟨_, rfl, unhide HF⟩
  have c2b : decide (n ≤ 4096) = true := decide_eq_true c2
  obtain ⟨m, rfl⟩ : ∃ m : Nat, n = m := ⟨n.toNat, by omega⟩
  go_wp2_with fail
  refine (unhide HK true (by rw [if_pos (by omega), c2b])).mono ?_
  rintro e w2 ⟨rfl, h3, h4⟩
  have HR2 := hide h3
  have HB2 := hide ((unhide HB1).trans h4)
  clear h3 h4 HK c1 c2b
  go_wp2
  go_loopw [6, 7] (fun v c wr => ∃ i : Nat, i ≤ m ∧ c = .int .i64 i ∧ OwnTs w.heap.size wr v (RS.iter RS.txn i s2).1 ∧ RdS wr R lo (RS.iter RS.txn i s2).2 ∧ But R w wr) (fun _ c _ => m - (intOf c).toNat)
  case atStart => exact ⟨0, by omega, rfl, OwnTs.nil _ _, unhide HR2, unhide HB2⟩
  case round =>
    obtain ⟨i, him, rfl, ho, hr, hb⟩ := hrel
    obtain ⟨ao, ca, rfl⟩ := ho.shape
    have g1 := hr.ce
    have hil := iter_len RS.txn s2 i
    by_cases hlt : i < m
    · by_cases he : (RS.iter RS.txn i s2).2.er = 0
      · rw [he] at g1
        have hst := iter_step he
        have HST := hide hst
        have HO := hide ho
        have HRr := hide hr
        have HB := hide hb
        have HT := hide (txn_r hr)
        clear ho hr hb hst he
        generalize RS.iter RS.txn i s2 = it at *
        obtain ⟨L, sI⟩ := it
        simp only at HST HO HRr HT hil g1 ⊢
        go_wp2_with fail
        refine (unhide HT).mono ?_
        rintro e w3 ⟨cs, rfl, hot, q1, q2⟩
        have hsz := (unhide HB).size
        have hrl := unhide HRl
        obtain ⟨vs, hvs, hrow, hall⟩ := unhide HO
        have ho3 := own_keepR hrow q2 hrl
        obtain ⟨cv, av, rv, wv, rfl, g5, g2, g73, g74⟩ := hot
        obtain ⟨k1, c1', rfl⟩ := own_shapeN g5
        obtain ⟨k2, c2', rfl⟩ := own_shapeN g2
        obtain ⟨k3, c3', rfl⟩ := own_shapeN g73
        obtain ⟨k4, c4', rfl⟩ := own_shapeN g74
        obtain ⟨d, hd⟩ : ∃ d, sI.txn.1 = d := ⟨_, rfl⟩
        rw [hd] at g5 g2 g73 g74
        rw [hd]
        have hot : OwnT w.heap.size w3 #[.int .i64 d.ses, .int .i64 d.req, .slice k1 d.code.length c1', .slice k2 d.args.length c2', .slice k3 d.reads.length c3', .slice k4 d.writes.length c4'] d := ⟨_, _, _, _, rfl, own_monoN g5 hsz, own_monoN g2 hsz, own_monoN g73 hsz, own_monoN g74 hsz⟩
        have hal : Below w3.heap.size w3 (w3.alloc (.cells #[.int .i64 d.ses, .int .i64 d.req, .slice k1 d.code.length c1', .slice k2 d.args.length c2', .slice k3 d.reads.length c3', .slice k4 d.writes.length c4'] 70)) := (Below.refl _ _).alloc (Nat.le_refl _) _
        have HO3 := hide (own_below ho3 hal)
        have HR3 := hide (q1.below hal)
        have HB3 := hide (((unhide HB).trans q2).trans (But.of hal))
        have HALL : Hid (∀ p ∈ vs ++ [(d, .slice k1 d.code.length c1', .slice k2 d.args.length c2', .slice k3 d.reads.length c3', .slice k4 d.writes.length c4')], OwnT w.heap.size (w3.alloc (.cells #[.int .i64 d.ses, .int .i64 d.req, .slice k1 d.code.length c1', .slice k2 d.args.length c2', .slice k3 d.reads.length c3', .slice k4 d.writes.length c4'] 70)) #[.int .i64 p.1.ses, .int .i64 p.1.req, p.2.1, p.2.2.1, p.2.2.2.1, p.2.2.2.2] p.1) := fun p hp => by
          rcases List.mem_append.1 hp with hp | hp
          · exact ((hall p hp).but q2 hrl).below hal
          · rw [List.mem_singleton] at hp
            subst hp
            exact hot.below hal
        have HVS := hide hvs
        have HD := hide hd
        have HSZ3 : Hid (w.heap.size ≤ (w3.alloc (.cells #[.int .i64 d.ses, .int .i64 d.req, .slice k1 d.code.length c1', .slice k2 d.args.length c2', .slice k3 d.reads.length c3', .slice k4 d.writes.length c4'] 70)).heap.size) := (unhide HB3).size
        have hso := hot
        clear q1 q2 ho3 hal HT hsz hall hrow hot hso g5 g2 g73 g74 hvs hd
        obtain ⟨d1, d2, d3, d4, d5, d6⟩ := d
        simp only at HO3 HR3 HB3 HALL HVS HD HSZ3 ⊢
        go_wp2_with (at_builtin; refine wpList_append_own _ rfl _ _ 22 rfl w.heap.size 70 i0 (.agg #[.int .i64 0, .int .i64 0, .slice none 0 0, .slice none 0 0, .slice none 0 0, .slice none 0 0]) 6 112 Tryz.underlying22 hi hz0 hz1 hz2 rfl (by decide) _ _ _ rfl (unhide HO3) ⟨w3.heap.size, 0, none⟩ 1 1 [.int .i64 d1, .int .i64 d2, .slice k1 d3.length c1', .slice k2 d4.length c2', .slice k3 d5.length c3', .slice k4 d6.length c4'] rfl rfl ?d0 ?d1 ?d2 ?d3 ?d4 ?_)
        case d0 =>
          intro j u hu
          have hj : j < 6 := by have := (List.getElem?_eq_some_iff.1 hu).1; simpa using this
          have hadd : (⟨w3.heap.size, 0, none⟩ : Addr).add j = ⟨w3.heap.size, j, none⟩ := by unfold Addr.add; split <;> simp_all
          rw [hadd, World.cell?_alloc_new]
          simpa using hu
        case d1 => intro u hu; simp at hu; rcases hu with rfl | rfl | rfl | rfl | rfl | rfl <;> rfl
        case d2 => unfold maxLen; omega
        case d3 => omega
        case d4 => exact unhide HSZ3
        intro v' w4 ho4 hg4 _
        obtain ⟨ao', ca', rfl⟩ := own_shapeN ho4
        have HF : Hid (OwnTs w.heap.size w4 (.slice ao' (L.length + 1) ca') (RS.iter RS.txn (i + 1) s2).1 ∧ RdS w4 R lo (RS.iter RS.txn (i + 1) s2).2 ∧ But R w w4) := by
          rw [unhide HST]
          refine ⟨⟨_, ?_, ?_, fun p hp => (unhide HALL p hp).grown (unhide HO3) hg4⟩, (unhide HR3).grown (unhide HO3) hrl hg4, (unhide HB3).grown (unhide HO3) (Nat.le_refl _) hg4⟩
          · rw [List.map_append, unhide HVS]
            simp only [List.map_cons, List.map_nil, unhide HD]
          · rw [List.flatMap_append, List.length_append]
            simp only [List.flatMap_cons, List.flatMap_nil, List.append_nil, List.length_cons, List.length_nil]
            exact ho4
        clear ho4 hg4
        go_wp2
        go_roundw
        case rel => exact ⟨i + 1, by omega, by go_num, (unhide HF).1, (unhide HF).2.1, (unhide HF).2.2⟩
        case measure => simp [intOf]; omega
      · have hE : RES = RS.iter RS.txn i s2 := by
          have e := iter_stop (take := RS.txn) (k := i) (s := s2) he (m - i)
          rw [show i + (m - i) = m by omega] at e
          rw [unhide HRES, Int.toNat_natCast, e]
        have HF : Hid (OwnTs w.heap.size wr (.slice ao (RS.iter RS.txn i s2).1.length ca) RES.1 ∧ RdS wr R lo RES.2 ∧ But R w wr) := by rw [hE]; exact ⟨ho, hr, hb⟩
        clear ho hr hb hE
        generalize (RS.iter RS.txn i s2).2.er = er2 at g1 he
        have heb : (er2 == 0) = false := by simpa using he
        generalize (RS.iter RS.txn i s2).1.length = L0 at *
        go_wp2
        go_ret
        exact ⟨_, rfl, unhide HF⟩
    · obtain rfl : i = m := by omega
      have hE : RES = RS.iter RS.txn i s2 := by rw [unhide HRES, Int.toNat_natCast]
      have HF : Hid (OwnTs w.heap.size wr (.slice ao (RS.iter RS.txn i s2).1.length ca) RES.1 ∧ RdS wr R lo RES.2 ∧ But R w wr) := by rw [hE]; exact ⟨ho, hr, hb⟩
      clear ho hr hb hE g1
      generalize (RS.iter RS.txn i s2).1.length = L0 at *
      go_wp2
      go_ret
      exact ⟨_, rfl, unhide HF⟩
end Go.Proofs.YtggllgimlfchhabGreat

/- Record: what was read, as it is seen. -/
namespace Go.Proofs.YtggllgimlfchhabGreat
open Go.RowKit
set_option maxRecDepth 100000

theorem keyCs_at : ∀ (l : List (Int × Int)) t, t < l.length → (keyCs l)[t * 2]? = some (.int .i32 (l.getD t (0, 0)).1) ∧ (keyCs l)[t * 2 + 1]? = some (.int .i64 (l.getD t (0, 0)).2)
  | [], t, h => absurd h (by simp)
  | k :: l, 0, _ => ⟨rfl, rfl⟩
  | k :: l, t + 1, h => by
    have := keyCs_at l t (by simpa using h)
    rw [show (t + 1) * 2 = t * 2 + 1 + 1 by omega]
    simp only [keyCs, List.getElem?_cons_succ, List.getD_cons_succ]
    exact this
theorem sees_keys {w : World} {base : Nat} {v : Value} {l : List (Int × Int)} (h : w.ownsRow base 91 2 v l.length (keyCs l)) (hl : l.length ≤ 4096) : SeesK w v l := by
  rcases h.2 with ⟨rfl, h0⟩ | ⟨g, cap, cur, rfl, hg, hh, hcap, _⟩
  · exact ⟨none, 0, 0, 0, by rw [h0], by omega, by omega, fun h => absurd h (by omega), fun t ht => absurd ht (by omega)⟩
  · have hat : ∀ t u, (keyCs l)[t]? = some u → w.cell? ⟨g, 0 + t, none⟩ = some u := by
      intro t u hu
      have := h.cells (g := g) rfl t u hu
      rwa [Addr.add_mid] at this
    exact ⟨some ⟨g, 0, none⟩, cap, g, 0, rfl, hcap, by omega, fun _ => rfl, fun t ht => ⟨hat _ _ (keyCs_at l t ht).1, by have := hat _ _ (keyCs_at l t ht).2; rwa [← Nat.add_assoc] at this⟩⟩
/-- What a transaction that was read may be. -/
structure ReadT (t : TxnD) : Prop where
  code : Byt t.code
  args : t.args.length ≤ 4096
  reads : t.reads.length ≤ 4096
  writes : t.writes.length ≤ 4096
theorem OwnT.sees {base : Nat} {w : World} {cs : Array Value} {t : TxnD} (h : OwnT base w cs t) (hr : ReadT t) : SeesT w cs t := by
  obtain ⟨cv, av, rv, wv, h0, h1, h2, h3, h4⟩ := h
  exact ⟨cv, av, rv, wv, h0, (sees_of_own h1).2, (sees_of_own h2).2, sees_keys h3 hr.reads, sees_keys h4 hr.writes⟩
theorem txnCells_at : ∀ (vs : List (TxnD × Value × Value × Value × Value)) t p, vs[t]? = some p → ∀ k, k < 6 → (vs.flatMap txnCells)[t * 6 + k]? = (txnCells p)[k]?
  | [], t, p, h => by simp at h
  | q :: vs, 0, p, h => fun k hk => by
    simp only [List.getElem?_cons_zero, Option.some.injEq] at h
    subst h
    simp only [List.flatMap_cons]
    rw [List.getElem?_append_left (by simp [txnCells]; omega)]
    simp
  | q :: vs, t + 1, p, h => fun k hk => by
    have ih := txnCells_at vs t p (by simpa using h) k hk
    simp only [List.flatMap_cons]
    rw [List.getElem?_append_right (by simp [txnCells]; omega)]
    rw [show (t + 1) * 6 + k - (txnCells q).length = t * 6 + k by simp [txnCells]; omega]
    exact ih
theorem OwnTs.sees {base : Nat} {w : World} {x : Value} {l : List TxnD} (h : OwnTs base w x l) (hl : l.length ≤ 4096) (hr : ∀ t ∈ l, ReadT t) : SeesTs w x l := by
  obtain ⟨vs, rfl, hrow, hall⟩ := h
  rcases hrow.2 with ⟨rfl, h0⟩ | ⟨g, cap, cur, rfl, hg, hh, hcap, _⟩
  · exact ⟨none, 0, 0, 0, by rw [h0], by omega, by omega, fun h => absurd h (by omega), fun t ht => absurd ht (by omega)⟩
  · have hat : ∀ t u, (vs.flatMap txnCells)[t]? = some u → w.cell? ⟨g, 0 + t, none⟩ = some u := by
      intro t u hu
      have := hrow.cells (g := g) rfl t u hu
      rwa [Addr.add_mid] at this
    refine ⟨some ⟨g, 0, none⟩, cap, g, 0, rfl, hcap, by omega, fun _ => rfl, fun t ht => ?_⟩
    have htv : t < vs.length := by simpa using ht
    have hp : vs[t]? = some vs[t] := List.getElem?_eq_getElem htv
    have e : (vs.map (·.1)).getD t dT = vs[t].1 := by simp [List.getD, htv]
    rw [e]
    have hc : ∀ k u, k < 6 → (txnCells vs[t])[k]? = some u → w.cell? ⟨g, 0 + t * 6 + k, none⟩ = some u := fun k u hk hu => by
      have := hat (t * 6 + k) u ((txnCells_at vs t _ hp k hk).trans hu)
      rwa [← Nat.add_assoc] at this
    exact ⟨_, _, _, _, hc 0 _ (by omega) rfl, hc 1 _ (by omega) rfl, hc 2 _ (by omega) rfl, hc 3 _ (by omega) rfl, hc 4 _ (by omega) rfl, hc 5 _ (by omega) rfl, (hall _ (List.getElem_mem htv)).sees (hr _ (List.mem_map.2 ⟨_, List.getElem_mem htv, rfl⟩))⟩

/-! ### what is read of bytes -/
theorem num_byt {s : RS} (h : Byt s.zs) : Byt s.num.2.zs := by
  unfold RS.num
  split
  · exact h.drop _
  · exact h
theorem must_byt {s : RS} {b : Bool} (h : Byt s.zs) : Byt (s.must b).zs := by
  unfold RS.must
  split <;> exact h
theorem tb_byt {l : List Int} (h : Byt l) : Byt (tb l).1 := by
  unfold tb
  (repeat' split) <;> first | (intro b hb; cases hb) | exact fun x hx => h x (List.mem_of_mem_drop (List.mem_of_mem_take hx))
theorem blob_byt {s : RS} (h : Byt s.zs) : Byt s.blob.2.zs ∧ Byt s.blob.1 := by
  unfold RS.blob
  split
  · exact ⟨h.drop _, tb_byt h⟩
  · exact ⟨h, fun b hb => by cases hb⟩
theorem iter_byt {α : Type} {take : RS → α × RS} {P : α → Prop} (ht : ∀ s : RS, Byt s.zs → Byt (take s).2.zs ∧ P (take s).1) {s : RS} (h : Byt s.zs) : ∀ k, Byt (RS.iter take k s).2.zs ∧ ∀ x ∈ (RS.iter take k s).1, P x
  | 0 => ⟨h, fun x hx => by cases hx⟩
  | k + 1 => by
    have ih := iter_byt ht h k
    by_cases he : (RS.iter take k s).2.er = 0
    · rw [iter_step he]
      have := ht _ ih.1
      exact ⟨this.1, fun x hx => by
        rcases List.mem_append.1 hx with hx | hx
        · exact ih.2 x hx
        · rw [List.mem_singleton] at hx; rw [hx]; exact this.2⟩
    · rw [iter_stop he 1]
      exact ih
theorem list_byt {α : Type} {take : RS → α × RS} {P : α → Prop} (ht : ∀ s : RS, Byt s.zs → Byt (take s).2.zs ∧ P (take s).1) {s : RS} (h : Byt s.zs) : Byt (s.list take).2.zs ∧ ∀ x ∈ (s.list take).1, P x :=
  iter_byt ht (must_byt (num_byt h)) _
theorem fit32_byt {s : RS} (h : Byt s.zs) : Byt s.fit32.2.zs := by
  unfold RS.fit32
  simp only
  split
  · exact num_byt h
  · exact num_byt h
theorem key_byt {s : RS} (h : Byt s.zs) : Byt s.key.2.zs := num_byt (fit32_byt h)
theorem txn_byt {s : RS} (h : Byt s.zs) : Byt s.txn.2.zs ∧ ReadT s.txn.1 := by
  have h1 := num_byt h
  have h2 := num_byt h1
  have h3 := blob_byt h2
  have h4 := (list_byt (take := RS.num) (P := fun _ => True) (fun s hs => ⟨num_byt hs, trivial⟩) h3.1).1
  have h5 := (list_byt (take := RS.key) (P := fun _ => True) (fun s hs => ⟨key_byt hs, trivial⟩) h4).1
  have h6 := (list_byt (take := RS.key) (P := fun _ => True) (fun s hs => ⟨key_byt hs, trivial⟩) h5).1
  exact ⟨h6, ⟨h3.2, list_len _ _, list_len _ _, list_len _ _⟩⟩
theorem txns_byt {s : RS} (h : Byt s.zs) : Byt (s.list RS.txn).2.zs ∧ ∀ x ∈ (s.list RS.txn).1, ReadT x := list_byt (fun _ hs => txn_byt hs) h
end Go.Proofs.YtggllgimlfchhabGreat
