/- Several texts as one. -/
import Derived.Test.YtggllgimlfchhaaGreatKN
import Derived.Test.YtggllgimlfchhaaGreatKO
import Derived.Test.YtggllgimlfchhaaGreatKC
import Derived.Deep.RegionHeld3

/- Record: the document's reader: small numbers, flags, the end, parts. -/
namespace Go.Proofs.YtggllgimlfchhaaGreat
open Go.RowKit
set_option maxRecDepth 100000

def clamp (n : Int) : Int := if n < -2147483648 ∨ 2147483648 < n then -2147483648 else n
def RS.small (s : RS) : Int × RS := (clamp s.num.1, s.num.2)
set_option maxHeartbeats 800000 in
theorem small_d {w : World} {R lo : Nat} {z0 : List Int} {s : RS} (h : Dr w R lo z0 s) :
    Calls Tryz.prog 92 #[.pointer (some ⟨R, 0, none⟩)] w fun e w' => e = .returned (.int .i64 s.small.1) ∧ Dr w' R lo z0 s.small.2 ∧ But R w w' := by
  have HN := hide (num_d h)
  unfold RS.small
  clear h
  generalize s.num = t at *
  obtain ⟨n, s1⟩ := t
  simp only at HN ⊢
  unfold clamp
  by_cases c1 : n < -2147483648
  · rw [if_pos (Or.inl c1)]
    go_enter Tryz.func92, Tryz.ntmps92
    go_wp2_with fail
    refine (unhide HN).mono ?_
    rintro e w1 ⟨rfl, h1, h2⟩
    have HD : Hid (Dr w1 R lo z0 s1 ∧ But R w w1) := ⟨h1, h2⟩
    clear h1 h2
    go_wp2_with fail
    go_ret
    exact ⟨rfl, unhide HD⟩
  by_cases c2 : 2147483648 < n
  · rw [if_pos (Or.inr c2)]
    go_enter Tryz.func92, Tryz.ntmps92
    go_wp2_with fail
    refine (unhide HN).mono ?_
    rintro e w1 ⟨rfl, h1, h2⟩
    have HD : Hid (Dr w1 R lo z0 s1 ∧ But R w w1) := ⟨h1, h2⟩
    clear h1 h2
    go_wp2_with fail
    go_ret
    exact ⟨rfl, unhide HD⟩
  rw [if_neg (by omega)]
  have hw : wrap64 n = n := by unfold wrap64; omega
  have hw' : IntKind.i64.wrap n = n := wrap_i64 _ (by omega) (by omega)
  go_enter Tryz.func92, Tryz.ntmps92
  go_wp2_with fail
  refine (unhide HN).mono ?_
  rintro e w1 ⟨rfl, h1, h2⟩
  have HD : Hid (Dr w1 R lo z0 s1 ∧ But R w w1) := ⟨h1, h2⟩
  clear h1 h2
  go_wp2_with fail
  go_ret
  exact ⟨rfl, unhide HD⟩

set_option maxHeartbeats 800000 in
theorem yes_d {w : World} {R lo : Nat} {z0 : List Int} {s : RS} (h : Dr w R lo z0 s) :
    Calls Tryz.prog 101 #[.pointer (some ⟨R, 0, none⟩)] w fun e w' => e = .returned (.bool s.flag.1) ∧ Dr w' R lo z0 s.flag.2 ∧ But R w w' := by
  have HN := hide (num_d h)
  have HB := hide (fun (g : s.num.2.er ≠ 0) => num_bad g)
  unfold RS.flag
  clear h
  generalize s.num = t at *
  obtain ⟨n, s1⟩ := t
  simp only at HN HB ⊢
  by_cases c1 : n = 0
  · subst c1
    rw [show decide ((0 : Int) = 0 ∨ (0 : Int) = 1) = true by decide, show decide ((0 : Int) = 1) = false by decide, must_true]
    go_enter Tryz.func101, Tryz.ntmps101
    go_wp2_with fail
    refine (unhide HN).mono ?_
    rintro e w1 ⟨rfl, h1, h2⟩
    have HD : Hid (Dr w1 R lo z0 s1 ∧ But R w w1) := ⟨h1, h2⟩
    clear h1 h2
    go_wp2_with fail
    go_ret
    exact ⟨rfl, unhide HD⟩
  by_cases c2 : n = 1
  · subst c2
    rw [show decide ((1 : Int) = 0 ∨ (1 : Int) = 1) = true by decide, show decide ((1 : Int) = 1) = true by decide, must_true]
    go_enter Tryz.func101, Tryz.ntmps101
    go_wp2_with fail
    refine (unhide HN).mono ?_
    rintro e w1 ⟨rfl, h1, h2⟩
    have HD : Hid (Dr w1 R lo z0 s1 ∧ But R w w1) := ⟨h1, h2⟩
    clear h1 h2
    go_wp2_with fail
    go_ret
    exact ⟨rfl, unhide HD⟩
  have he : s1.er = 0 := Classical.byContradiction fun g => by have := unhide HB g; omega
  rw [show decide (n = 0 ∨ n = 1) = false from decide_eq_false (fun h => h.elim c1 c2), must_false s1 he, show decide (n = 1) = false from decide_eq_false c2]
  have c1b : (n != 0) = true := by simpa using c1
  have c2b : (n != 1) = true := by simpa using c2
  have c2c : (n == 1) = false := by simpa using c2
  go_enter Tryz.func101, Tryz.ntmps101
  go_wp2_with fail
  refine (unhide HN).mono ?_
  rintro e w1 ⟨rfl, h1, h2⟩
  have HF := hide (fail_d h1 40 he)
  have HD : Hid (Dr (w1.setCell ⟨R, 2, none⟩ (.int .i64 40)) R lo z0 ⟨s1.zs, 40, s1.un⟩ ∧ But R w (w1.setCell ⟨R, 2, none⟩ (.int .i64 40))) := ⟨h1.err, h2.set 2 _⟩
  clear h1 h2
  go_wp2_with fail
  refine (unhide HF).mono ?_
  rintro e w2 ⟨rfl, rfl⟩
  go_wp2_with fail
  go_ret
  exact ⟨by first | rfl | simp [c2], unhide HD⟩

set_option maxHeartbeats 800000 in
theorem end_d {w : World} {R lo : Nat} {z0 : List Int} {s : RS} (h : Dr w R lo z0 s) :
    Calls Tryz.prog 48 #[.pointer (some ⟨R, 0, none⟩)] w fun e w' => e = .returned (.tuple #[]) ∧ Dr w' R lo z0 s.fin ∧ But R w w' := by
  obtain ⟨v, g0, g1⟩ := h.cb
  obtain ⟨k, g2, g3, g4⟩ := h.ca
  obtain ⟨ao, cap, rfl, _⟩ := g1
  have hd : Dr w.drew R lo z0 s := h.below (Below.refl _ _).drew
  have HB : Hid (But R w w.drew) := But.of (Below.refl _ _).drew
  have HD := hide hd
  have hlen := h.len
  by_cases c : k < z0.length
  · have hne : s.zs ≠ [] := by
      rw [g4]
      intro e
      have := congrArg List.length e
      simp at this
      omega
    have ci : (k : Int) < (z0.length : Int) := by omega
    by_cases he : s.er = 0
    · rw [fin_yes ⟨he, hne⟩]
      have HF := hide (fail_d hd 13 he)
      have HE : Hid (Dr (w.drew.setCell ⟨R, 2, none⟩ (.int .i64 13)) R lo z0 ⟨s.zs, 13, s.un⟩ ∧ But R w (w.drew.setCell ⟨R, 2, none⟩ (.int .i64 13))) := ⟨hd.err, (unhide HB).set 2 _⟩
      clear h hd
      generalize z0.length = n at *
      go_enter Tryz.func48, Tryz.ntmps48
      go_wp2
      go_region
      go_wp2_with fail
      refine (unhide HF).mono ?_
      rintro e w2 ⟨rfl, rfl⟩
      go_wp2_with fail
      go_end0
      exact ⟨rfl, unhide HE⟩
    · rw [fin_no (fun h => he h.1)]
      have HF := hide (fail_d' hd 13 he)
      clear h hd
      generalize z0.length = n at *
      go_enter Tryz.func48, Tryz.ntmps48
      go_wp2
      go_region
      go_wp2_with fail
      refine (unhide HF).mono ?_
      rintro e w2 ⟨rfl, rfl⟩
      go_wp2_with fail
      go_end0
      exact ⟨rfl, unhide HD, unhide HB⟩
  · have hz : s.zs = [] := by rw [g4]; exact List.drop_of_length_le (by omega)
    have ci : ¬ (k : Int) < (z0.length : Int) := by omega
    rw [fin_no (fun h => h.2 hz)]
    clear h hd
    generalize z0.length = n at *
    go_enter Tryz.func48, Tryz.ntmps48
    go_wp2
    go_region
    go_wp2
    go_end0
    exact ⟨rfl, unhide HD, unhide HB⟩
end Go.Proofs.YtggllgimlfchhaaGreat

/- Record: the document's reader: entries. -/
namespace Go.Proofs.YtggllgimlfchhaaGreat
open Go.RowKit
set_option maxRecDepth 100000

theorem append_txn {w : World} {base g : Nat} {v : Value} {l : List TxnD} {d : TxnD} {k1 k2 k3 k4 : Option Addr} {n1 n2 n3 n4 c1 c2 c3 c4 : Nat} (hown : OwnTs base w v l) (hot : OwnT base w #[.int .i64 d.ses, .int .i64 d.req, .slice k1 n1 c1, .slice k2 n2 c2, .slice k3 n3 c3, .slice k4 n4 c4] d) (hc : w.heap[g]? = some (.cells #[.int .i64 d.ses, .int .i64 d.req, .slice k1 n1 c1, .slice k2 n2 c2, .slice k3 n3 c3, .slice k4 n4 c4] 26)) (hl : l.length ≤ 4096) (hb : base ≤ w.heap.size) (ty : TypeId) :
    ∃ a' c' w', (Builtin.append_ #[27, 27] ty #[v, .slice (some ⟨g, 0, none⟩) 1 1]).run Tryz.prog w = .ok (.slice a' (l.length + 1) c') w' ∧ OwnTs base w' (.slice a' (l.length + 1) c') (l ++ [d]) ∧ (∃ n xs, w.ownsRow base 26 6 v n xs) ∧ w.grownBy w' v.ownBlock := by
  obtain ⟨i0, hi, hz0, hz1, hz2⟩ := info_parts Tryz.info26
  obtain ⟨vs, hvs, hrow, hall⟩ := hown
  obtain ⟨v', w', h1, h2, h3, _⟩ := run_append_own (P := Tryz.prog) (w := w) base 27 ty 26 i0 (.agg #[.int .i64 0, .int .i64 0, .slice none 0 0, .slice none 0 0, .slice none 0 0, .slice none 0 0]) 6 112 Tryz.underlying27 hi hz0 hz1 hz2 rfl (by decide) v l.length (vs.flatMap txnCells) hrow ⟨g, 0, none⟩ 1 1 [.int .i64 d.ses, .int .i64 d.req, .slice k1 n1 c1, .slice k2 n2 c2, .slice k3 n3 c3, .slice k4 n4 c4] rfl
    (fun j u hu => by
      have hj : j < 6 := by have := (List.getElem?_eq_some_iff.1 hu).1; simpa using this
      have ha : (⟨g, 0, none⟩ : Addr).add j = ⟨g, j, none⟩ := by unfold Addr.add; split <;> simp_all
      rw [ha, cell_of_heap hc]; simpa using hu) (fun u hu => by simp at hu; rcases hu with rfl | rfl | rfl | rfl | rfl | rfl <;> rfl) (by unfold maxLen; omega) (by omega) hb
  obtain ⟨a', c', rfl⟩ := own_shapeN h2
  refine ⟨a', c', w', h1, ⟨vs ++ [(d, .slice k1 n1 c1, .slice k2 n2 c2, .slice k3 n3 c3, .slice k4 n4 c4)], ?_, ?_, fun p hp => ?_⟩, ⟨_, _, hrow⟩, h3⟩
  · rw [List.map_append, hvs]; rfl
  · rw [List.flatMap_append, List.length_append]
    simp only [List.flatMap_cons, List.flatMap_nil, List.append_nil, List.length_cons, List.length_nil]
    exact h2
  · rcases List.mem_append.1 hp with hp | hp
    · exact (hall p hp).grown hrow h3
    · rw [List.mem_singleton] at hp
      subst hp
      exact hot.grown hrow h3
theorem OwnT.monoN {base base' : Nat} {w : World} {cs : Array Value} {t : TxnD} (h : OwnT base w cs t) (hb : base' ≤ base) : OwnT base' w cs t := by
  obtain ⟨cv, av, rv, wv, g0, g1, g2, g3, g4⟩ := h
  exact ⟨cv, av, rv, wv, g0, own_monoN g1 hb, own_monoN g2 hb, own_monoN g3 hb, own_monoN g4 hb⟩
/-- Where the loop of an entry's transactions stands. -/
structure EJ (w : World) (R lo : Nat) (ZB : List Int) (k f n : Int) (s : RS) (L : List TxnD) (wr : World) (a4 : Option Addr) (c4 : Nat) : Prop where
  t : wr.heap[w.heap.size + 1]? = some (.cells #[.int .i64 k, .int .i64 f, .int .i64 n, .slice a4 L.length c4] 29)
  z : wr.heap[w.heap.size]? = some (.cells #[.int .i64 0, .int .i64 0, .int .i64 0, .slice none 0 0] 29)
  txns : OwnTs (w.heap.size + 2) wr (.slice a4 L.length c4) L
  rd : Dr wr R lo ZB s
  but : But R w wr
  size : w.heap.size + 2 ≤ wr.heap.size
theorem EJ.call {w : World} {R lo : Nat} {ZB : List Int} {k f n : Int} {s : RS} {L : List TxnD} {wr : World} {a4 : Option Addr} {c4 : Nat} {y : World} {s' : RS} (h : EJ w R lo ZB k f n s L wr a4 c4) (hR : R < w.heap.size) (hd : Dr y R lo ZB s') (hb : But R wr y) : EJ w R lo ZB k f n s' L y a4 c4 :=
  ⟨hb.same h.t (by omega), hb.same h.z (by omega), h.txns.but hb (by omega), hd, h.but.trans hb, Nat.le_trans h.size hb.size⟩
theorem EJ.below {w : World} {R lo : Nat} {ZB : List Int} {k f n : Int} {s : RS} {L : List TxnD} {wr : World} {a4 : Option Addr} {c4 : Nat} {y : World} (h : EJ w R lo ZB k f n s L wr a4 c4) (hR : R < w.heap.size) (hb : Below wr.heap.size wr y) : EJ w R lo ZB k f n s L y a4 c4 := h.call hR (h.rd.below hb) (But.of hb)
theorem EJ.step {w : World} {R lo : Nat} {ZB : List Int} {k f n : Int} {s : RS} {L : List TxnD} {wr : World} {a4 : Option Addr} {c4 : Nat} {g : Nat} (h : EJ w R lo ZB k f n s L wr a4 c4) (hR : R < w.heap.size) (hl : L.length ≤ 4096) {d : TxnD} {k1 k2 k3 k4 : Option Addr} {n1 n2 n3 n4 c1 c2 c3 c4x : Nat} (hot : OwnT (w.heap.size + 2) wr #[.int .i64 d.ses, .int .i64 d.req, .slice k1 n1 c1, .slice k2 n2 c2, .slice k3 n3 c3, .slice k4 n4 c4x] d) (hc : wr.heap[g]? = some (.cells #[.int .i64 d.ses, .int .i64 d.req, .slice k1 n1 c1, .slice k2 n2 c2, .slice k3 n3 c3, .slice k4 n4 c4x] 26)) (ty : TypeId) :
    ∃ a' c' w', (Builtin.append_ #[27, 27] ty #[.slice a4 L.length c4, .slice (some ⟨g, 0, none⟩) 1 1]).run Tryz.prog wr = .ok (.slice a' (L.length + 1) c') w' ∧ w'.cell? ⟨w.heap.size + 1, 3, none⟩ = some (.slice a4 L.length c4) ∧ (∀ o, w'.frozen? ⟨w.heap.size + 1, o, none⟩ = false) ∧
      EJ w R lo ZB k f n s (L ++ [d]) (w'.setCell ⟨w.heap.size + 1, 3, none⟩ (.slice a' (L.length + 1) c')) a' c' := by
  obtain ⟨a', c', w', h1, h2, ⟨rn, rx, hrow⟩, h3⟩ := append_txn h.txns hot hc hl h.size ty
  have bk : ∀ j, j < w.heap.size + 2 → w'.heap[j]? = wr.heap[j]? := fun j hk => h3.block j (by have := h.size; omega) (fun e => by have := (hrow.lt j e.symm).1; omega)
  have ht : w'.heap[w.heap.size + 1]? = _ := (bk _ (by omega)).trans h.t
  have hz : w'.heap[w.heap.size]? = _ := (bk _ (by omega)).trans h.z
  refine ⟨a', c', w', h1, cell_of_heap ht, fun o => frozen_of_heap ht, ?_⟩
  have hls : (L ++ [d]).length = L.length + 1 := by simp
  refine ⟨?_, ?_, ?_, ?_, ?_, ?_⟩
  · rw [hls]; exact setCell_heap ht
  · exact (Below.heap_setCell _ _ _ _ (fun e => by simp only at e; omega)).trans hz
  · rw [hls]; exact h2.setR (by omega)
  · exact (h.rd.grown hrow (by omega) h3).other (by omega) 3 _
  · exact (h.but.grown hrow (by omega) h3).new (b := w.heap.size + 1) (by omega) 3 _
  · simp only [World.setCell, Array.size_modify]; exact Nat.le_trans h.size h3.size

/-- An entry, as the document reads it. -/
def RS.dentry (s : RS) : EntD × RS :=
  if s.small.1 = 0 then (⟨0, 0, 0, []⟩, s.small.2)
  else if s.small.1 = 1 then (⟨1, s.small.2.small.1, s.small.2.small.2.num.1, (s.small.2.small.2.num.2.list RS.dtxn).1⟩, (s.small.2.small.2.num.2.list RS.dtxn).2)
  else (⟨s.small.1, 0, 0, []⟩, s.small.2.must false)
theorem small_bad {s : RS} (h : s.small.2.er ≠ 0) : s.small.1 = 0 := by
  have : s.num.1 = 0 := num_bad h
  simp [RS.small, clamp, this]

set_option maxHeartbeats 3200000 in
theorem entry_d {w : World} {R lo : Nat} {ZB : List Int} {s : RS} (h : Dr w R lo ZB s) :
    Calls Tryz.prog 47 #[.pointer (some ⟨R, 0, none⟩)] w fun e w' => ∃ cs, e = .returned (.agg cs) ∧ OwnE w.heap.size w' cs s.dentry.1 ∧ Dr w' R lo ZB s.dentry.2 ∧ But R w w' := by
  have hr := h.rlt
  have hbad := fun (g : s.small.2.er ≠ 0) => small_bad g
  obtain ⟨k, s1, e1⟩ : ∃ a b, s.small = (a, b) := ⟨_, _, rfl⟩
  rw [e1] at hbad
  simp only at hbad
  have HBAD := hide hbad
  have HDE : Hid (s.dentry = if k = 0 then (⟨0, 0, 0, []⟩, s1) else if k = 1 then (⟨1, s1.small.1, s1.small.2.num.1, (s1.small.2.num.2.list RS.dtxn).1⟩, (s1.small.2.num.2.list RS.dtxn).2) else (⟨k, 0, 0, []⟩, s1.must false)) := by show _ = _; simp only [RS.dentry, e1]
  obtain ⟨E, hE⟩ : ∃ x, s.dentry = x := ⟨_, rfl⟩
  rw [hE] at HDE
  rw [hE]
  have hal : Below w.heap.size w ((w.alloc (.cells #[.int .i64 0, .int .i64 0, .int .i64 0, .slice none 0 0] 29)).alloc (.cells #[.int .i64 0, .int .i64 0, .int .i64 0, .slice none 0 0] 29)) := ((Below.refl _ _).alloc (Nat.le_refl _) _).alloc (by simp) _
  have hz0 : ((w.alloc (.cells #[.int .i64 0, .int .i64 0, .int .i64 0, .slice none 0 0] 29)).alloc (.cells #[.int .i64 0, .int .i64 0, .int .i64 0, .slice none 0 0] 29)).heap[w.heap.size]? = some (.cells #[.int .i64 0, .int .i64 0, .int .i64 0, .slice none 0 0] 29) := (Below.heap_alloc _ _ _ (by simp)).trans (heap_alloc_new w _)
  have hs0 : (w.alloc (.cells #[.int .i64 0, .int .i64 0, .int .i64 0, .slice none 0 0] 29)).heap.size = w.heap.size + 1 := by simp
  have ht0 : ((w.alloc (.cells #[.int .i64 0, .int .i64 0, .int .i64 0, .slice none 0 0] 29)).alloc (.cells #[.int .i64 0, .int .i64 0, .int .i64 0, .slice none 0 0] 29)).heap[w.heap.size + 1]? = some (.cells #[.int .i64 0, .int .i64 0, .int .i64 0, .slice none 0 0] 29) := by have := heap_alloc_new (w.alloc (.cells #[.int .i64 0, .int .i64 0, .int .i64 0, .slice none 0 0] 29)) (.cells #[.int .i64 0, .int .i64 0, .int .i64 0, .slice none 0 0] 29); rw [hs0] at this; exact this
  have hs1 : ((w.alloc (.cells #[.int .i64 0, .int .i64 0, .int .i64 0, .slice none 0 0] 29)).alloc (.cells #[.int .i64 0, .int .i64 0, .int .i64 0, .slice none 0 0] 29)).heap.size = w.heap.size + 2 := by simp
  have HC0 := hide (small_d (h.below hal))
  rw [e1] at HC0
  simp only at HC0
  obtain ⟨w2, hw2⟩ : ∃ y, ((w.alloc (.cells #[.int .i64 0, .int .i64 0, .int .i64 0, .slice none 0 0] 29)).alloc (.cells #[.int .i64 0, .int .i64 0, .int .i64 0, .slice none 0 0] 29)) = y := ⟨_, rfl⟩
  rw [hw2] at hal hz0 ht0 hs1 HC0
  have hJ0 : EJ w R lo ZB 0 0 0 s [] w2 none 0 := ⟨ht0, hz0, OwnTs.nil _ _, h.below hal, But.of hal, by omega⟩
  have HJ0 := hide hJ0
  clear h hal hz0 hs0 ht0 hs1 e1 hE hJ0 hbad
  go_enter Tryz.func47, Tryz.ntmps47
  go_wp2_with (rw [hw2])
  refine (unhide HC0).mono ?_
  rintro e y1 ⟨rfl, p1, q1⟩
  have j1 := (unhide HJ0).call hr p1 q1
  have ka : y1.cell? ⟨w.heap.size + 1, 0, none⟩ = some (.int .i64 0) := cell_of_heap j1.t
  have fa : ∀ o, y1.frozen? ⟨w.heap.size + 1, o, none⟩ = false := fun o => frozen_of_heap j1.t
  have j2 : EJ w R lo ZB k 0 0 s1 [] (y1.setCell ⟨w.heap.size + 1, 0, none⟩ (.int .i64 k)) none 0 := ⟨setCell_heap j1.t, (Below.heap_setCell _ _ _ _ (fun e => by simp only at e; omega)).trans j1.z, OwnTs.nil _ _, j1.rd.other (by omega) 0 _, j1.but.new (b := w.heap.size + 1) (by omega) 0 _, by simp only [World.setCell, Array.size_modify]; exact j1.size⟩
  obtain ⟨y2, hy2⟩ : ∃ y, y1.setCell ⟨w.heap.size + 1, 0, none⟩ (.int .i64 k) = y := ⟨_, rfl⟩
  rw [hy2] at j2
  have kb : y2.cell? ⟨w.heap.size + 1, 0, none⟩ = some (.int .i64 k) := cell_of_heap j2.t
  have HJ2 := hide j2
  clear p1 q1 j1 j2 HC0 HJ0
  by_cases c0 : k = 0
  · subst c0
    have hE : E = (⟨0, 0, 0, []⟩, s1) := (unhide HDE).trans (if_pos rfl)
    have HE := hide hE
    have HX9 := hide (unhide HJ2).t
    have HZ9 := hide (unhide HJ2).z
    clear hE HDE
    go_wp2_with (first | rw [hy2] | refine wpList_load_row rfl 29 _ rfl (w.heap.size + 1) rfl 29 _ (0, 0) _ (unhide HX9) Tryz.underlying29 rfl (by kernel_rfl) ?_ | refine wpList_store_row rfl 29 _ _ rfl w.heap.size _ _ rfl rfl 29 (unhide HZ9) (by kernel_rfl) rfl (by first | kernel_rfl | simp [Value.oneCell']) ?_)
    refine bodyPost_ret (results_cell_row rfl _ _ w.heap.size 29 #[.int .i64 0, .int .i64 0, .int .i64 0, .slice none 0 0] (0, 0) _ rfl (setRow_heap _ _ _ _ _ _ (unhide HZ9)) Tryz.underlying29 rfl (by kernel_rfl)) rfl ?_
    rw [unhide HE]
    exact ⟨_, rfl, ⟨_, rfl, OwnTs.nil _ _⟩, (unhide HJ2).rd.keep (fun k hk => setRow_other _ _ _ _ (by omega)), (unhide HJ2).but.newRow (Nat.le_refl _) _⟩
  by_cases c1 : k = 1
  case neg =>
    have he : s1.er = 0 := Classical.byContradiction fun g => c0 (unhide HBAD g)
    have hE : E = (⟨k, 0, 0, []⟩, ⟨s1.zs, 40, s1.un⟩) := (unhide HDE).trans ((if_neg c0).trans ((if_neg c1).trans (by rw [must_false s1 he])))
    have HE := hide hE
    have c0b : (k == 0) = false := by simpa using c0
    have c1b : (k == 1) = false := by simpa using c1
    have HF := hide (fail_d (unhide HJ2).rd 40 he)
    have j3 : EJ w R lo ZB k 0 0 ⟨s1.zs, 40, s1.un⟩ [] (y2.setCell ⟨R, 2, none⟩ (.int .i64 40)) none 0 := (unhide HJ2).call hr (unhide HJ2).rd.err ((But.refl _ _).set 2 _)
    have HJ3 := hide j3
    clear hE HDE j3
    go_wp2_with (rw [hy2])
    refine (unhide HF).mono ?_
    rintro e y3 ⟨rfl, rfl⟩
    have j3 := unhide HJ3
    obtain ⟨y3, hy3⟩ : ∃ y, y2.setCell ⟨R, 2, none⟩ (.int .i64 40) = y := ⟨_, rfl⟩
    rw [hy3] at j3
    rw [hy3]
    have HX9 := hide j3.t
    have HZ9 := hide j3.z
    have HJ9 := hide j3
    clear j3
    go_wp2_with (first | refine wpList_load_row rfl 29 _ rfl (w.heap.size + 1) rfl 29 _ (0, 0) _ (unhide HX9) Tryz.underlying29 rfl (by kernel_rfl) ?_ | refine wpList_store_row rfl 29 _ _ rfl w.heap.size _ _ rfl rfl 29 (unhide HZ9) (by kernel_rfl) rfl (by first | kernel_rfl | simp [Value.oneCell']) ?_)
    refine bodyPost_ret (results_cell_row rfl _ _ w.heap.size 29 #[.int .i64 k, .int .i64 0, .int .i64 0, .slice none 0 0] (0, 0) _ rfl (setRow_heap _ _ _ _ _ _ (unhide HZ9)) Tryz.underlying29 rfl (by kernel_rfl)) rfl ?_
    rw [unhide HE]
    exact ⟨_, rfl, ⟨_, rfl, OwnTs.nil _ _⟩, (unhide HJ9).rd.keep (fun k hk => setRow_other _ _ _ _ (by omega)), (unhide HJ9).but.newRow (Nat.le_refl _) _⟩
  subst c1
  obtain ⟨f, s2, e2⟩ : ∃ a b, s1.small = (a, b) := ⟨_, _, rfl⟩
  obtain ⟨n, s3, e3⟩ : ∃ a b, s2.num = (a, b) := ⟨_, _, rfl⟩
  obtain ⟨l4, s4, e4⟩ : ∃ a b, s3.list RS.dtxn = (a, b) := ⟨_, _, rfl⟩
  have hE : E = (⟨1, f, n, l4⟩, s4) := (unhide HDE).trans ((if_neg (by decide)).trans ((if_pos rfl).trans (by simp only [e2, e3, e4])))
  have HE := hide hE
  have HE3 := hide e3
  have HE4 := hide e4
  have HC1 := hide (small_d (unhide HJ2).rd)
  rw [e2] at HC1
  simp only at HC1
  clear hE HDE e2 e3 e4 HBAD
  go_wp2_with (rw [hy2])
  refine (unhide HC1).mono ?_
  rintro e y3 ⟨rfl, p1, q1⟩
  have j1 := (unhide HJ2).call hr p1 q1
  have k1 : y3.cell? ⟨w.heap.size + 1, 1, none⟩ = some (.int .i64 0) := cell_of_heap j1.t
  have f1 : ∀ o, y3.frozen? ⟨w.heap.size + 1, o, none⟩ = false := fun o => frozen_of_heap j1.t
  have j2 : EJ w R lo ZB 1 f 0 s2 [] (y3.setCell ⟨w.heap.size + 1, 1, none⟩ (.int .i64 f)) none 0 := ⟨setCell_heap j1.t, (Below.heap_setCell _ _ _ _ (fun e => by simp only at e; omega)).trans j1.z, OwnTs.nil _ _, j1.rd.other (by omega) 1 _, j1.but.new (b := w.heap.size + 1) (by omega) 1 _, by simp only [World.setCell, Array.size_modify]; exact j1.size⟩
  obtain ⟨y4, hy4⟩ : ∃ y, y3.setCell ⟨w.heap.size + 1, 1, none⟩ (.int .i64 f) = y := ⟨_, rfl⟩
  rw [hy4] at j2
  have HJ4 := hide j2
  have HC2 := hide (num_d j2.rd)
  rw [unhide HE3] at HC2
  simp only at HC2
  clear p1 q1 j1 j2 HC1 HJ2 kb
  go_wp2_with (rw [hy4])
  refine (unhide HC2).mono ?_
  rintro e y5 ⟨rfl, p1, q1⟩
  have j1 := (unhide HJ4).call hr p1 q1
  have k2 : y5.cell? ⟨w.heap.size + 1, 2, none⟩ = some (.int .i64 0) := cell_of_heap j1.t
  have f2 : ∀ o, y5.frozen? ⟨w.heap.size + 1, o, none⟩ = false := fun o => frozen_of_heap j1.t
  have j2 : EJ w R lo ZB 1 f n s3 [] (y5.setCell ⟨w.heap.size + 1, 2, none⟩ (.int .i64 n)) none 0 := ⟨setCell_heap j1.t, (Below.heap_setCell _ _ _ _ (fun e => by simp only at e; omega)).trans j1.z, OwnTs.nil _ _, j1.rd.other (by omega) 2 _, j1.but.new (b := w.heap.size + 1) (by omega) 2 _, by simp only [World.setCell, Array.size_modify]; exact j1.size⟩
  obtain ⟨y6, hy6⟩ : ∃ y, y5.setCell ⟨w.heap.size + 1, 2, none⟩ (.int .i64 n) = y := ⟨_, rfl⟩
  rw [hy6] at j2
  have HJ6 := hide j2
  have HC3 := hide (len_d j2.rd)
  obtain ⟨m, hm, hm4⟩ := lenV_nat s3.num.1
  have hl4 : RS.iter RS.dtxn m s3.len = (l4, s4) := by have := unhide HE4; rw [list_lenV, hm, Int.toNat_natCast] at this; exact this
  have HL4 := hide hl4
  rw [hm] at HC3
  obtain ⟨sL, hsL⟩ : ∃ x, s3.len = x := ⟨_, rfl⟩
  rw [hsL] at HC3 HL4
  clear p1 q1 j1 j2 HC2 HJ4 hm hl4 hsL
  go_wp2_with (rw [hy6])
  refine (unhide HC3).mono ?_
  rintro e y7 ⟨rfl, p3, q3⟩
  have HTJ : Hid (EJ w R lo ZB 1 f n sL [] y7 none 0) := (unhide HJ6).call hr p3 q3
  clear p3 q3 HC3 HJ6
  go_wp2_with fail
  go_loopw [5] (fun c wr => ∃ i : Nat, i ≤ m ∧ c = .int .i64 i ∧ ∃ a4 c4, EJ w R lo ZB 1 f n (RS.iter RS.dtxn i sL).2 (RS.iter RS.dtxn i sL).1 wr a4 c4) (fun c _ => m - (intOf c).toNat)
  case atStart => exact ⟨0, by omega, rfl, none, 0, unhide HTJ⟩
  case round =>
    obtain ⟨i, him, rfl, a4, c4, hJ⟩ := hrel
    have g1 := hJ.rd.ce
    have hil := iter_len RS.dtxn sL i
    by_cases hlt : i < m
    · by_cases he : (RS.iter RS.dtxn i sL).2.er = 0
      · rw [he] at g1
        have hst := iter_step he
        have HST := hide hst
        have hJd := hJ.below hr (y := wr.drew) (Below.refl _ _).drew
        have HT := hide (txn_d hJd.rd)
        have HJ := hide hJd
        have hk3 : wr.cell? ⟨w.heap.size + 1, 3, none⟩ = some (.slice a4 (RS.iter RS.dtxn i sL).1.length c4) := cell_of_heap hJ.t
        clear hst he hJ hJd HTJ
        generalize RS.iter RS.dtxn i sL = it at *
        obtain ⟨L, sI⟩ := it
        simp only at HST HT HJ hil g1 hk3 ⊢
        obtain ⟨d, hn⟩ : ∃ d, sI.dtxn.1 = d := ⟨_, rfl⟩
        rw [hn] at HT HST
        have AFT : Hid (∀ (y5 : World) (k1 k2 k3 k4 : Option Addr) (n1 n2 n3 n4 c1 c2 c3 c4' : Nat), OwnT wr.drew.heap.size y5 #[.int .i64 d.ses, .int .i64 d.req, .slice k1 n1 c1, .slice k2 n2 c2, .slice k3 n3 c3, .slice k4 n4 c4'] d → Dr y5 R lo ZB sI.dtxn.2 → But R wr.drew y5 → y5.cell? ⟨w.heap.size + 1, 3, none⟩ = some (.slice a4 L.length c4) ∧ (y5.alloc (.cells #[.int .i64 d.ses, .int .i64 d.req, .slice k1 n1 c1, .slice k2 n2 c2, .slice k3 n3 c3, .slice k4 n4 c4'] 26)).cell? ⟨w.heap.size + 1, 3, none⟩ = some (.slice a4 L.length c4) ∧ ∃ a' c' w', (Builtin.append_ #[27, 27] 27 #[.slice a4 L.length c4, .slice (some ⟨y5.heap.size, 0, none⟩) 1 1]).run Tryz.prog (y5.alloc (.cells #[.int .i64 d.ses, .int .i64 d.req, .slice k1 n1 c1, .slice k2 n2 c2, .slice k3 n3 c3, .slice k4 n4 c4'] 26)) = .ok (.slice a' (L.length + 1) c') w' ∧ w'.cell? ⟨w.heap.size + 1, 3, none⟩ = some (.slice a4 L.length c4) ∧ (∀ o, w'.frozen? ⟨w.heap.size + 1, o, none⟩ = false) ∧ EJ w R lo ZB 1 f n (RS.iter RS.dtxn (i + 1) sL).2 (RS.iter RS.dtxn (i + 1) sL).1 (w'.setCell ⟨w.heap.size + 1, 3, none⟩ (.slice a' (L.length + 1) c')) a' c') := fun y5 k1 k2 k3 k4 n1 n2 n3 n4 c1 c2 c3 c4' ot p q => by
          have j5 := (unhide HJ).call hr p q
          have hal5 : Below y5.heap.size y5 (y5.alloc (.cells #[.int .i64 d.ses, .int .i64 d.req, .slice k1 n1 c1, .slice k2 n2 c2, .slice k3 n3 c3, .slice k4 n4 c4'] 26)) := (Below.refl _ _).alloc (Nat.le_refl _) _
          have j6 := j5.below hr hal5
          refine ⟨cell_of_heap j5.t, cell_of_heap j6.t, ?_⟩
          rw [unhide HST]
          have ot2 : OwnT (w.heap.size + 2) (y5.alloc (.cells #[.int .i64 d.ses, .int .i64 d.req, .slice k1 n1 c1, .slice k2 n2 c2, .slice k3 n3 c3, .slice k4 n4 c4'] 26)) #[.int .i64 d.ses, .int .i64 d.req, .slice k1 n1 c1, .slice k2 n2 c2, .slice k3 n3 c3, .slice k4 n4 c4'] d := (OwnT.monoN ot (unhide HJ).size).below hal5
          exact j6.step hr (by omega) ot2 (heap_alloc_new y5 _) 27
        clear HJ HST
        obtain ⟨d1, d2, d3, d4, d5, d6⟩ := d
        simp only at HT AFT
        go_wp2_with fail
        refine wp_region_held_drew (S := fun _ => True) (by kernel_rfl) trivial (fun hHeld => ?_)
        refine wpAnyH_take (i := 0) (v := ?v1x0) rfl (by kernel_rfl) (by kernel_rfl) (by kernel_rfl) (fun _ _ _ h => h) (Or.inl ⟨by rfl, ?hy1x0⟩) (by assumption) ?rest1x0
        case hy1x0 => intro w hSw; go_simp <;> with_reducible rfl
        simp only [Act.put, List.getElem_toArray, List.getElem_cons_zero, List.setIfInBounds_toArray, List.set_cons_zero, List.set_cons_succ]
        refine wpAnyH_take (i := 2) (v := ?v2x2) rfl (by kernel_rfl) (by kernel_rfl) (by kernel_rfl) (fun _ _ _ h => h) (Or.inl ⟨by rfl, ?hy2x2⟩) (by assumption) ?rest2x2
        case hy2x2 => intro w hSw; go_simp <;> with_reducible rfl
        simp only [Act.put, List.getElem_toArray, List.getElem_cons_zero, List.getElem_cons_succ, List.setIfInBounds_toArray, List.set_cons_zero, List.set_cons_succ]
        refine wpAnyH_ready (rs := [1, 3]) (by kernel_rfl) (by simp) ?_
        refine AllReadyH.cons rfl (fun K hK => ?_) (AllReadyH.cons rfl (fun K hK => ?_) AllReadyH.nil)
        · go_simp
          refine hK _ _ trivial ?_
          clear hK hHeld
          intro hHeld
          refine wpAnyH_ready (rs := [3]) (by kernel_rfl) (by simp) ?_
          refine AllReadyH.cons rfl (fun K hK => ?_) AllReadyH.nil
          go_simp
          refine (unhide HT).mono ?_
          rintro e y5 ⟨cs, rfl, hot, p5, q5⟩
          refine hK _ _ trivial ?_
          clear hK hHeld
          intro hHeld
          obtain ⟨cv, av, rv, wv, rfl, g5, g2, g73, g74⟩ := id hot
          obtain ⟨k1, c1, rfl⟩ := own_shapeN g5
          obtain ⟨k2, c2, rfl⟩ := own_shapeN g2
          obtain ⟨k3, c3, rfl⟩ := own_shapeN g73
          obtain ⟨k4, c4', rfl⟩ := own_shapeN g74
          clear g5 g2 g73 g74
          simp only at hot ⊢
          obtain ⟨hk5, hk6, a', c', w7, hr7, hk7, hf7, hJ7⟩ := unhide AFT y5 _ _ _ _ _ _ _ _ _ _ _ _ hot p5 q5
          have HJ7 := hide hJ7
          clear p5 q5 hJ7 hot
          refine wpAnyH_ready (rs := [4]) (by kernel_rfl) (by simp) ?_
          refine AllReadyH.cons rfl (fun K hK => ?_) AllReadyH.nil
          go_simp
          refine hK _ _ trivial ?_
          clear hK hHeld
          intro hHeld
          refine wpAnyH_ready (rs := [5]) (by kernel_rfl) (by simp) ?_
          refine AllReadyH.cons rfl (fun K hK => ?_) AllReadyH.nil
          rw [if_pos (by rfl)]
          refine append_upon rfl rfl rfl hr7 ?_
          simp only [Act.put, List.getElem_toArray, List.getElem_cons_zero, List.getElem_cons_succ, List.setIfInBounds_toArray, List.set_cons_zero, List.set_cons_succ]
          refine hK _ _ trivial ?_
          clear hK hHeld
          intro hHeld
          clear hr7
          refine wpAnyH_take (i := 6) (v := ?v3x6) rfl (by kernel_rfl) (by kernel_rfl) (by kernel_rfl) (fun _ _ _ h => h) (Or.inl ⟨by rfl, ?hy3x6⟩) (by assumption) ?rest3x6
          case hy3x6 => intro w hSw; go_simp <;> with_reducible rfl
          simp only [Act.put, List.getElem_toArray, List.getElem_cons_zero, List.getElem_cons_succ, List.setIfInBounds_toArray, List.set_cons_zero, List.set_cons_succ]
          refine wpAnyH_ready (rs := [7]) (by kernel_rfl) (by simp) ?_
          refine AllReadyH.cons rfl (fun K hK => ?_) AllReadyH.nil
          go_simp
          refine hK _ _ trivial ?_
          clear hK hHeld
          intro hHeld
          refine wpAnyH_done (by kernel_rfl) ?_ _
          go_wp2
          go_roundw
          case rel => exact ⟨i + 1, by omega, by go_num, a', c', unhide HJ7⟩
          case measure => simp [intOf]; omega
        · go_simp
          refine (unhide HT).mono ?_
          rintro e y5 ⟨cs, rfl, hot, p5, q5⟩
          obtain ⟨cv, av, rv, wv, rfl, g5, g2, g73, g74⟩ := id hot
          obtain ⟨k1, c1, rfl⟩ := own_shapeN g5
          obtain ⟨k2, c2, rfl⟩ := own_shapeN g2
          obtain ⟨k3, c3, rfl⟩ := own_shapeN g73
          obtain ⟨k4, c4', rfl⟩ := own_shapeN g74
          clear g5 g2 g73 g74
          simp only at hot ⊢
          refine hK _ _ trivial ?_
          clear hK hHeld
          intro hHeld
          obtain ⟨hk5, hk6, a', c', w7, hr7, hk7, hf7, hJ7⟩ := unhide AFT y5 _ _ _ _ _ _ _ _ _ _ _ _ hot p5 q5
          have HJ7 := hide hJ7
          clear p5 q5 hJ7 hot
          refine wpAnyH_ready (rs := [1, 4]) (by kernel_rfl) (by simp) ?_
          refine AllReadyH.cons rfl (fun K hK => ?_) (AllReadyH.cons rfl (fun K hK => ?_) AllReadyH.nil)
          · go_simp
            refine hK _ _ trivial ?_
            clear hK hHeld
            intro hHeld
            refine wpAnyH_ready (rs := [4]) (by kernel_rfl) (by simp) ?_
            refine AllReadyH.cons rfl (fun K hK => ?_) AllReadyH.nil
            go_simp
            refine hK _ _ trivial ?_
            clear hK hHeld
            intro hHeld
            refine wpAnyH_ready (rs := [5]) (by kernel_rfl) (by simp) ?_
            refine AllReadyH.cons rfl (fun K hK => ?_) AllReadyH.nil
            rw [if_pos (by rfl)]
            refine append_upon rfl rfl rfl hr7 ?_
            simp only [Act.put, List.getElem_toArray, List.getElem_cons_zero, List.getElem_cons_succ, List.setIfInBounds_toArray, List.set_cons_zero, List.set_cons_succ]
            refine hK _ _ trivial ?_
            clear hK hHeld
            intro hHeld
            clear hr7
            refine wpAnyH_take (i := 6) (v := ?v4x6) rfl (by kernel_rfl) (by kernel_rfl) (by kernel_rfl) (fun _ _ _ h => h) (Or.inl ⟨by rfl, ?hy4x6⟩) (by assumption) ?rest4x6
            case hy4x6 => intro w hSw; go_simp <;> with_reducible rfl
            simp only [Act.put, List.getElem_toArray, List.getElem_cons_zero, List.getElem_cons_succ, List.setIfInBounds_toArray, List.set_cons_zero, List.set_cons_succ]
            refine wpAnyH_ready (rs := [7]) (by kernel_rfl) (by simp) ?_
            refine AllReadyH.cons rfl (fun K hK => ?_) AllReadyH.nil
            go_simp
            refine hK _ _ trivial ?_
            clear hK hHeld
            intro hHeld
            refine wpAnyH_done (by kernel_rfl) ?_ _
            go_wp2
            go_roundw
            case rel => exact ⟨i + 1, by omega, by go_num, a', c', unhide HJ7⟩
            case measure => simp [intOf]; omega
          · go_simp
            refine hK _ _ trivial ?_
            clear hK hHeld
            intro hHeld
            refine wpAnyH_ready (rs := [1]) (by kernel_rfl) (by simp) ?_
            refine AllReadyH.cons rfl (fun K hK => ?_) AllReadyH.nil
            go_simp
            refine hK _ _ trivial ?_
            clear hK hHeld
            intro hHeld
            refine wpAnyH_ready (rs := [5]) (by kernel_rfl) (by simp) ?_
            refine AllReadyH.cons rfl (fun K hK => ?_) AllReadyH.nil
            rw [if_pos (by rfl)]
            refine append_upon rfl rfl rfl hr7 ?_
            simp only [Act.put, List.getElem_toArray, List.getElem_cons_zero, List.getElem_cons_succ, List.setIfInBounds_toArray, List.set_cons_zero, List.set_cons_succ]
            refine hK _ _ trivial ?_
            clear hK hHeld
            intro hHeld
            clear hr7
            refine wpAnyH_take (i := 6) (v := ?v5x6) rfl (by kernel_rfl) (by kernel_rfl) (by kernel_rfl) (fun _ _ _ h => h) (Or.inl ⟨by rfl, ?hy5x6⟩) (by assumption) ?rest5x6
            case hy5x6 => intro w hSw; go_simp <;> with_reducible rfl
            simp only [Act.put, List.getElem_toArray, List.getElem_cons_zero, List.getElem_cons_succ, List.setIfInBounds_toArray, List.set_cons_zero, List.set_cons_succ]
            refine wpAnyH_ready (rs := [7]) (by kernel_rfl) (by simp) ?_
            refine AllReadyH.cons rfl (fun K hK => ?_) AllReadyH.nil
            go_simp
            refine hK _ _ trivial ?_
            clear hK hHeld
            intro hHeld
            refine wpAnyH_done (by kernel_rfl) ?_ _
            go_wp2
            go_roundw
            case rel => exact ⟨i + 1, by omega, by go_num, a', c', unhide HJ7⟩
            case measure => simp [intOf]; omega
      · have hE : RS.iter RS.dtxn i sL = (l4, s4) := by
          have e := iter_stop (take := RS.dtxn) (k := i) (s := sL) he (m - i)
          rw [show i + (m - i) = m by omega] at e
          rw [← e]; exact unhide HL4
        rw [hE] at g1 hJ he
        have heb : (s4.er == 0) = false := by simpa using he
        have HX9 := hide hJ.t
        have HZ9 := hide hJ.z
        have HF : Hid (∀ cs, OwnTs w.heap.size (wr.setRow w.heap.size cs) (.slice a4 l4.length c4) l4 ∧ Dr (wr.setRow w.heap.size cs) R lo ZB s4 ∧ But R w (wr.setRow w.heap.size cs)) := fun cs => ⟨(hJ.txns.same (row_same cs (by omega))).mono (by omega), hJ.rd.keep (fun k hk => setRow_other _ _ _ _ (by omega)), hJ.but.newRow (Nat.le_refl _) _⟩
        clear hJ hil
        obtain ⟨ln, hln⟩ : ∃ x, l4.length = x := ⟨_, rfl⟩
        rw [hln] at HX9 HF
        clear hln
        go_wp2_with (first | refine wpList_load_row rfl 29 _ rfl (w.heap.size + 1) rfl 29 _ (0, 0) _ (unhide HX9) Tryz.underlying29 rfl (by kernel_rfl) ?_ | refine wpList_store_row rfl 29 _ _ rfl w.heap.size _ _ rfl rfl 29 (unhide HZ9) (by kernel_rfl) rfl (by first | kernel_rfl | simp [Value.oneCell']) ?_)
        refine bodyPost_ret (results_cell_row rfl _ _ w.heap.size 29 #[.int .i64 1, .int .i64 f, .int .i64 n, .slice a4 ln c4] (0, 0) _ rfl (setRow_heap _ _ _ _ _ _ (unhide HZ9)) Tryz.underlying29 rfl (by kernel_rfl)) rfl ?_
        rw [unhide HE]
        exact ⟨_, rfl, ⟨_, rfl, (unhide HF _).1⟩, (unhide HF _).2⟩
    · obtain rfl : i = m := by omega
      have hE : RS.iter RS.dtxn i sL = (l4, s4) := unhide HL4
      rw [hE] at g1 hJ
      clear HTJ
      have HX9 := hide hJ.t
      have HZ9 := hide hJ.z
      have HF : Hid (∀ cs, OwnTs w.heap.size (wr.setRow w.heap.size cs) (.slice a4 l4.length c4) l4 ∧ Dr (wr.setRow w.heap.size cs) R lo ZB s4 ∧ But R w (wr.setRow w.heap.size cs)) := fun cs => ⟨(hJ.txns.same (row_same cs (by omega))).mono (by omega), hJ.rd.keep (fun k hk => setRow_other _ _ _ _ (by omega)), hJ.but.newRow (Nat.le_refl _) _⟩
      clear hJ hil
      obtain ⟨ln, hln⟩ : ∃ x, l4.length = x := ⟨_, rfl⟩
      rw [hln] at HX9 HF
      clear hln
      go_wp2_with (first | refine wpList_load_row rfl 29 _ rfl (w.heap.size + 1) rfl 29 _ (0, 0) _ (unhide HX9) Tryz.underlying29 rfl (by kernel_rfl) ?_ | refine wpList_store_row rfl 29 _ _ rfl w.heap.size _ _ rfl rfl 29 (unhide HZ9) (by kernel_rfl) rfl (by first | kernel_rfl | simp [Value.oneCell']) ?_)
      refine bodyPost_ret (results_cell_row rfl _ _ w.heap.size 29 #[.int .i64 1, .int .i64 f, .int .i64 n, .slice a4 ln c4] (0, 0) _ rfl (setRow_heap _ _ _ _ _ _ (unhide HZ9)) Tryz.underlying29 rfl (by kernel_rfl)) rfl ?_
      rw [unhide HE]
      exact ⟨_, rfl, ⟨_, rfl, (unhide HF _).1⟩, (unhide HF _).2⟩
end Go.Proofs.YtggllgimlfchhaaGreat
