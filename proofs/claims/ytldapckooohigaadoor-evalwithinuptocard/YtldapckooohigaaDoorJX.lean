/- Several texts as one. -/
import Derived.Test.YtldapckooohigaaDoorV0
import Derived.Test.YtldapckooohigaaDoorV1
import Derived.Test.YtldapckooohigaaDoorV2
import Derived.Defers
import Derived.Recover
import Derived.Laws.Pointers
import Derived.Shelf.Abstract

/- read. -/
namespace Go.Proofs.YtldapckooohigaaDoor
open Go.RowKit
set_option maxRecDepth 100000

theorem take1 {l : List Int} {q : Nat} (h : q + 1 ≤ l.length) : (l.drop q).take 1 = [l.getD q 0] := by
  rw [List.drop_eq_getElem_cons (show q < l.length by omega), List.take_succ_cons, List.take_zero, List.getD, List.getElem?_eq_getElem (by omega)]; rfl
theorem take2 {l : List Int} {q : Nat} (h : q + 2 ≤ l.length) : (l.drop q).take 2 = [l.getD q 0, l.getD (q + 1) 0] := by
  rw [List.drop_eq_getElem_cons (show q < l.length by omega), List.drop_eq_getElem_cons (show q + 1 < l.length by omega), List.take_succ_cons, List.take_succ_cons, List.take_zero, List.getD, List.getD, List.getElem?_eq_getElem (show q < l.length by omega), List.getElem?_eq_getElem (show q + 1 < l.length by omega)]; rfl
/-- Bytes that are seen. -/
theorem SeesL.bytes {w : World} {v : Value} {l : List Int} (h : SeesL yC 1 w v l) : ∃ ao cap gb ob, v = .slice ao l.length cap ∧ l.length ≤ cap ∧ (0 < l.length → ao = some ⟨gb, ob, none⟩) ∧ (ao = none → cap = 0) ∧ ∀ t, t < l.length → w.cell? ⟨gb, ob + t, none⟩ = some (.int .u8 (l.getD t 0)) := by
  obtain ⟨ao, cap, gb, ob, h1, h2, h3, h4, h5, h6⟩ := h
  refine ⟨ao, cap, gb, ob, h1, h2, h5, h4, fun t ht => ?_⟩
  have e : l[t]? = some (l.getD t 0) := by simp [List.getD, ht]
  have := h6 t _ e 0 (by omega)
  simpa [yC] using this

set_option maxHeartbeats 800000 in
theorem read_out (ao : Option Addr) (n cap : Nat) (p : Int) (w : World) (h : ¬ (0 ≤ p ∧ p < n)) : Calls Tryd.prog 69 #[.slice ao n cap, .int .i64 p] w fun e w' => e = GiveUp 130 ∧ Below w.heap.size w w' := by
  by_cases h0 : 0 ≤ p
  · have h1 : decide (p < (n : Int)) = false := by simp; omega
    have h2 : decide (p ≥ 0) = true := by simpa using h0
    go_enter Tryd.func69, Tryd.ntmps69
    go_wp2_with fail
    refine (must_no _ _).mono ?_
    rintro e w2 ⟨rfl, rfl⟩
    exact ⟨rfl, rfl, below_box _⟩
  · have h2 : decide (p ≥ 0) = false := by simpa using h0
    go_enter Tryd.func69, Tryd.ntmps69
    go_wp2_with fail
    refine (must_no _ _).mono ?_
    rintro e w2 ⟨rfl, rfl⟩
    exact ⟨rfl, rfl, below_box _⟩
set_option maxHeartbeats 800000 in
theorem read_op (ga oa n cap p : Nat) (op : Int) (w : World) (hp : p < n) (h0 : 0 ≤ op) (h1 : op ≤ 255) (hn : ¬ (0 ≤ op ∧ op < 28)) (hc : w.cell? ⟨ga, oa + p, none⟩ = some (.int .u8 op)) :
    Calls Tryd.prog 69 #[.slice (some ⟨ga, oa, none⟩) n cap, .int .i64 p] w fun e w' => e = GiveUp 130 ∧ Below w.heap.size w w' := by
  have hp0 : (p : Int) < n := by omega
  have hge : decide ((p : Int) ≥ 0) = true := by simp
  have hc' : (w.alloc (.cells #[.int .i64 0, .int .i64 0, .int .i64 0, .int .i64 0, .int .i64 0] 89)).cell? ⟨ga, oa + p, none⟩ = some (.int .u8 op) := ((below_box _).cell (World.block_lt_of_cell? w _ hc)).trans hc
  have HZ := hide (fun w => size_no op w hn)
  clear hn hc
  go_enter Tryd.func69, Tryd.ntmps69
  go_wp2_with (first
    | (go_at_call_of 67 (Value.bool true); refine (must_ok _ _).mono ?_; rintro e w2 ⟨rfl, rfl⟩)
    | (go_at_call 84; refine (unhide HZ _).mono ?_; rintro e w2 ⟨rfl, rfl⟩))
  refine (must_no _ _).mono ?_
  rintro e w2 ⟨rfl, rfl⟩
  exact ⟨rfl, rfl, below_box _⟩
set_option maxHeartbeats 800000 in
theorem read_short (ga oa n cap p : Nat) (op s : Int) (w : World) (hT : Tab w) (hs : sz op = s) (hp : p < n) (hn : n ≤ 4611686018427387904) (h0 : 0 ≤ op) (h1 : op < 28) (hl : (n : Int) - p < s) (hc : w.cell? ⟨ga, oa + p, none⟩ = some (.int .u8 op)) :
    Calls Tryd.prog 69 #[.slice (some ⟨ga, oa, none⟩) n cap, .int .i64 p] w fun e w' => e = GiveUp 130 ∧ Below w.heap.size w w' := by
  have hp0 : (p : Int) < n := by omega
  have hge : decide ((p : Int) ≥ 0) = true := by simp
  have hq : decide (s ≤ (n : Int) - (p : Int)) = false := by simp; omega
  have hc' : (w.alloc (.cells #[.int .i64 0, .int .i64 0, .int .i64 0, .int .i64 0, .int .i64 0] 89)).cell? ⟨ga, oa + p, none⟩ = some (.int .u8 op) := ((below_box _).cell (World.block_lt_of_cell? w _ hc)).trans hc
  have HZ : Hid (Calls Tryd.prog 84 #[.int .i64 op] (w.alloc (.cells #[.int .i64 0, .int .i64 0, .int .i64 0, .int .i64 0, .int .i64 0] 89)) fun e w'' => e = .returned (.tuple #[.int .i64 s, .bool true]) ∧ (w.alloc (.cells #[.int .i64 0, .int .i64 0, .int .i64 0, .int .i64 0, .int .i64 0] 89)) = w'') := by rw [← hs]; exact size_yes op _ (hT.below (below_box _) hT.pos) h0 h1
  clear hT hs hc hl
  go_enter Tryd.func69, Tryd.ntmps69
  go_wp2_with (first
    | (go_at_call_of 67 (Value.bool true); refine (must_ok _ _).mono ?_; rintro e w2 ⟨rfl, rfl⟩)
    | (go_at_call 84; refine (unhide HZ).mono ?_; rintro e w2 ⟨rfl, rfl⟩))
  refine (must_no _ _).mono ?_
  rintro e w2 ⟨rfl, rfl⟩
  exact ⟨rfl, rfl, below_box _⟩

theorem rds_no {w : World} {er : Int} {x : Ins} {e : Ending} {w' : World} (hn : er ≠ 0) (h : e = GiveUp er ∧ Below w.heap.size w w') : Rds w er x e w' := ⟨h.2, fun z => absurd z hn, fun _ => h.1⟩
theorem rds_yes {w : World} {x : Ins} {e : Ending} {w' : World} (h : e = .returned (iV x.ad x.op x.a x.b x.im) ∧ Below w.heap.size w w') : Rds w 0 x e w' := ⟨h.2, fun _ => h.1, fun z => absurd rfl z⟩

/-- number on the bytes that are left. -/
theorem number_sees {w : World} {l : List Int} {g ob cb k r d : Nat} {bo : Option Addr} (op : Int) (hby : Byt l) (q : Nat) (hq : q + d ≤ l.length) (hd : d ≤ 2) (hk : k = r + d) (hkc : k ≤ cb) (hbo : 0 < k → bo = some ⟨g, ob + q - r, none⟩) (hqr : r ≤ q)
    (hc : ∀ t, t < l.length → w.cell? ⟨g, ob + t, none⟩ = some (.int .u8 (l.getD t 0))) :
    Calls Tryd.prog 86 #[.int .i64 op, tailV 1 bo k cb r] w fun e w' => e = .returned (.int .i64 (imm op ((l.drop q).take d))) ∧ w = w' := by
  have hkr : k - r = d := by omega
  unfold tailV
  rw [hkr]
  rcases (by omega : d = 0 ∨ d = 1 ∨ d = 2) with rfl | rfl | rfl
  · rw [List.take_zero]
    exact number0 op _ _ w
  · rw [take1 (by omega), if_neg (by omega), hbo (by omega)]
    have ea : (⟨g, ob + q - r, none⟩ : Addr).add (r * 1) = ⟨g, ob + q, none⟩ := by
      unfold Addr.add; split <;> simp <;> omega
    rw [Option.map_some, ea]
    exact number1 op _ g (ob + q) _ w (hby.get q) (hc q (by omega))
  · rw [take2 (by omega), if_neg (by omega), hbo (by omega)]
    have ea : (⟨g, ob + q - r, none⟩ : Addr).add (r * 1) = ⟨g, ob + q, none⟩ := by
      unfold Addr.add; split <;> simp <;> omega
    rw [Option.map_some, ea]
    exact number2 op _ _ g (ob + q) _ w (hby.get q) (hby.get (q + 1)) (hc q (by omega)) (by rw [Nat.add_assoc]; exact hc (q + 1) (by omega))

theorem read_any {w : World} {v : Value} {l : List Int} (p : Int) (hT : Tab w) (hs : SeesL yC 1 w v l) (hby : Byt l) (hm : l.length ≤ 4611686018427387904) :
    Calls Tryd.prog 69 #[v, .int .i64 p] w fun e w' => Rds w (oneE l p) (rd l p.toNat) e w' := by
  obtain ⟨ao, cap, g, ob, rfl, hlc, hao, _, hc⟩ := hs.bytes
  by_cases h0 : ¬ (0 ≤ p ∧ p < l.length)
  · have e : oneE l p = 130 := if_neg h0
    rw [e]
    exact (read_out ao l.length cap p w h0).mono fun e w' h => rds_no (by decide) h
  replace h0 := Classical.not_not.1 h0
  obtain ⟨q, rfl⟩ := Int.eq_ofNat_of_zero_le h0.1
  obtain rfl := hao (by omega)
  have hop := hby.get q
  have hcq := hc q (by omega)
  by_cases h1 : ¬ (0 ≤ l.getD q 0 ∧ l.getD q 0 < 28)
  · have e : oneE l q = 130 := by unfold oneE; rw [if_pos h0, if_pos (.inl (sz_none (by simpa using h1)))]
    rw [e]
    exact (read_op g ob l.length cap q _ w (by omega) hop.1 hop.2 h1 hcq).mono fun e w' h => rds_no (by decide) h
  replace h1 := Classical.not_not.1 h1
  by_cases h2 : (l.length : Int) - q < sz (l.getD q 0)
  · have e : oneE l q = 130 := by unfold oneE; rw [if_pos h0, if_pos (.inr (by simpa using h2))]
    rw [e]
    exact (read_short g ob l.length cap q _ _ w hT rfl (by omega) hm h1.1 h1.2 h2 hcq).mono fun e w' h => rds_no (by decide) h
  obtain ⟨f1, f2, f3, f4, f5, f6⟩ := op_facts h1.1 h1.2
  have e : oneE l q = if sd (rd l q) = true then 0 else 132 := by
    unfold oneE
    rw [if_pos h0, if_neg (by simp only [Int.toNat_natCast, not_or]; exact ⟨sz_ne h1.1 h1.2, h2⟩), Int.toNat_natCast]
  rw [e]
  have hx : rd l q = ⟨q, l.getD q 0, if 1 ≤ rg (l.getD q 0) then l.getD (q + 1) 0 else 0, if 2 ≤ rg (l.getD q 0) then l.getD (q + 2) 0 else 0, imm (l.getD q 0) ((l.drop (q + 1 + rg (l.getD q 0))).take (wd (l.getD q 0)))⟩ := rfl
  simp only [Int.toNat_natCast]
  generalize hopn : l.getD q 0 = op at *
  obtain ⟨s, hsz⟩ : ∃ s : Nat, sz op = s := ⟨(sz op).toNat, by omega⟩
  rw [hsz] at f1 f2 f3 h2
  have hps : q + s ≤ l.length := by omega
  -- the slices
  obtain ⟨i, _, hi, _, hisz, _⟩ := rtY.info
  obtain ⟨bo, hbo⟩ : ∃ bo, (if cap = q + 1 then (some ⟨g, ob, none⟩ : Option Addr) else (some ⟨g, ob, none⟩ : Option Addr).map (·.add ((q + 1) * 1))) = bo := ⟨_, rfl⟩
  have hbo' : 0 < s - 1 → bo = some ⟨g, ob + (q + 1), none⟩ := fun h => by
    rw [← hbo, if_neg (by omega)]
    simp [Addr.add]
  have hS1 : ∀ w, (Instr.slice 31 (.slice (some ⟨g, ob, none⟩) l.length cap) (some (.int .i64 ((q : Int) + 1))) (some (.int .i64 ((q : Int) + (s : Int)))) none).run Tryd.prog w = .ok (.slice bo (s - 1) (cap - (q + 1))) w := fun w => by
    have := slice_mid Tryd.underlying31 hi hisz (some ⟨g, ob, none⟩) l.length cap (q + 1) (q + s) (by omega) (by omega) w
    rw [hbo, show q + s - (q + 1) = s - 1 by omega] at this
    exact this
  have hsr : s - 1 = rg op + wd op := by omega
  have hcb : s - 1 ≤ cap - (q + 1) := by omega
  have hS2 : ∀ w, (Instr.slice 31 (.slice bo (s - 1) (cap - (q + 1))) none (some (.int .i64 (rg op : Int))) none).run Tryd.prog w = .ok (.slice bo (rg op) (cap - (q + 1))) w := fun w => rtY.head _ _ _ _ (by omega) w
  have hS3 : ∀ w, (Instr.slice 31 (.slice bo (s - 1) (cap - (q + 1))) (some (.int .i64 (rg op : Int))) none none).run Tryd.prog w = .ok (tailV 1 bo (s - 1) (cap - (q + 1)) (rg op)) w := fun w => rtY.tail _ _ _ _ (by omega) w
  have hN : ∀ w', Below w.heap.size w w' → Calls Tryd.prog 86 #[.int .i64 op, tailV 1 bo (s - 1) (cap - (q + 1)) (rg op)] w' fun e w'' => e = .returned (.int .i64 (imm op ((l.drop (q + 1 + rg op)).take (wd op)))) ∧ w' = w'' := fun w' hb =>
    number_sees (g := g) (ob := ob) op hby (q + 1 + rg op) (by omega) f5 hsr hcb (fun h => by rw [hbo' h, show ob + (q + 1 + rg op) - rg op = ob + (q + 1) by omega]) (by omega) (fun t ht => (hb.cell (World.block_lt_of_cell? w _ (hc t ht))).trans (hc t ht))
  have hpn : (q : Int) + (s : Int) ≤ l.length := by omega
  rw [hx]
  generalize imm op ((l.drop (q + 1 + rg op)).take (wd op)) = m at *
  rcases (by omega : rg op = 0 ∨ rg op = 1 ∨ rg op = 2) with hr | hr | hr
  · rw [hr] at hS2 hS3 hN
    rw [hr, if_neg (show ¬ 1 ≤ 0 by decide), if_neg (show ¬ 2 ≤ 0 by decide)]
    by_cases hd : sd ⟨q, op, 0, 0, m⟩ = true
    · rw [if_pos hd]
      exact (read0_ok w g ob l.length cap q _ _ op s m bo _ hT h1.1 h1.2 (by omega) hsz f1 f2 hm hpn hcq hS1 hS2 hS3 hN hd).mono fun e w' h => rds_yes h
    · rw [if_neg hd]
      exact (read0_no w g ob l.length cap q _ _ op s m bo _ hT h1.1 h1.2 (by omega) hsz f1 f2 hm hpn hcq hS1 hS2 hS3 hN (by simpa using hd)).mono fun e w' h => rds_no (by decide) h
  · rw [hr] at hS2 hS3 hN
    rw [hbo' (by omega)] at hS1 hS2 hS3 hN
    rw [hr, if_pos (show 1 ≤ 1 by decide), if_neg (show ¬ 2 ≤ 1 by decide)]
    by_cases hd : sd ⟨q, op, l.getD (q + 1) 0, 0, m⟩ = true
    · rw [if_pos hd]
      exact (read1_ok w g ob l.length cap q _ _ op s m g (ob + (q + 1)) _ _ hT h1.1 h1.2 (by omega) hsz f1 f2 hm hpn hcq hS1 hS2 hS3 (hby.get _) (hc (q + 1) (by omega)) hN hd).mono fun e w' h => rds_yes h
    · rw [if_neg hd]
      exact (read1_no w g ob l.length cap q _ _ op s m g (ob + (q + 1)) _ _ hT h1.1 h1.2 (by omega) hsz f1 f2 hm hpn hcq hS1 hS2 hS3 (hby.get _) (hc (q + 1) (by omega)) hN (by simpa using hd)).mono fun e w' h => rds_no (by decide) h
  · rw [hr] at hS2 hS3 hN
    rw [hbo' (by omega)] at hS1 hS2 hS3 hN
    rw [hr, if_pos (show 1 ≤ 2 by decide), if_pos (show 2 ≤ 2 by decide)]
    by_cases hd : sd ⟨q, op, l.getD (q + 1) 0, l.getD (q + 2) 0, m⟩ = true
    · rw [if_pos hd]
      exact (read2_ok w g ob l.length cap q _ _ op s m g (ob + (q + 1)) _ _ _ hT h1.1 h1.2 (by omega) hsz f1 f2 hm hpn hcq hS1 hS2 hS3 (hby.get _) (hc (q + 1) (by omega)) (hby.get _) (hc (q + 2) (by omega)) hN hd).mono fun e w' h => rds_yes h
    · rw [if_neg hd]
      exact (read2_no w g ob l.length cap q _ _ op s m g (ob + (q + 1)) _ _ _ hT h1.1 h1.2 (by omega) hsz f1 f2 hm hpn hcq hS1 hS2 hS3 (hby.get _) (hc (q + 1) (by omega)) (hby.get _) (hc (q + 2) (by omega)) hN (by simpa using hd)).mono fun e w' h => rds_no (by decide) h
end Go.Proofs.YtldapckooohigaaDoor

/- caught: what gives up is caught, its error is the answer. -/
namespace Go.Proofs.YtldapckooohigaaDoor
open Go.RowKit
set_option maxRecDepth 100000

theorem ta_yes (er : Int) (w : World) : (Instr.typeAssert (.iface 115 (.agg #[.int .i64 er])) 20 115 true).run Tryd.prog w = .ok (.tuple #[.agg #[.int .i64 er], .bool true]) w := by kernel_rfl
theorem ta_no (w : World) : (Instr.typeAssert .nilIface 20 115 true).run Tryd.prog w = .ok (.tuple #[.agg #[.int .i64 0], .bool false]) w := by kernel_rfl
theorem one_setCell {w : World} {b : Nat} {v u : Value} {T : TypeId} (h : w.heap[b]? = some (.cells #[v] T)) : (w.setCell ⟨b, 0, none⟩ u).heap[b]? = some (.cells #[u] T) := by rw [heap_setCell_same w b 0 _ T _ h]; rfl

set_option maxHeartbeats 400000 in
theorem catch64_giveup (b : Nat) (x er : Int) (w : World) (hc : w.cell? ⟨b, 0, none⟩ = some (.int .i64 x)) (hz : w.frozen? ⟨b, 0, none⟩ = false) (hp : b < w.heap.size) :
    CallsD Tryd.prog 66 #[.pointer (some ⟨b, 0, none⟩)] (.panicking [{ v := .iface 115 (.agg #[.int .i64 er]), recovered := false }]) w fun e u' w' =>
      e = .returned (.tuple #[]) ∧ u' = .panicking [{ v := .iface 115 (.agg #[.int .i64 er]), recovered := true }] ∧ w' = (w.setCell ⟨b, 0, none⟩ (.int .i64 er)).alloc (.cells #[.int .i64 er] 115) := by
  have hta := ta_yes er
  have hne : ¬ b = w.heap.size := by omega
  refine callsD_of_wpS Tryd.func66 rfl fun c₀ cs hu => ?_
  apply wpS_seq
  apply wpS_region
  simp [wpOpsS, go_sem, recoverD, hu, Tryd.ntmps66, Exit.thenS]
  refine wpS_of_wp ?_
  simp [Array.replicate]
  go_wp2
  exact ⟨rfl, _, rfl, _, by simp [results, Tryd.results66], rfl, rfl, rfl⟩

set_option maxHeartbeats 400000 in
theorem catch64_idle (b : Nat) (w : World) :
    CallsD Tryd.prog 66 #[.pointer (some ⟨b, 0, none⟩)] .returning w fun e u' w' =>
      e = .returned (.tuple #[]) ∧ u' = .returning ∧ w' = w.alloc (.cells #[.int .i64 0] 115) := by
  have hta := ta_no
  refine callsD_of_wpS Tryd.func66 rfl fun c₀ cs hu => ?_
  apply wpS_seq
  apply wpS_region
  simp [wpOpsS, go_sem, recoverD, hu, Tryd.ntmps66, Exit.thenS]
  refine wpS_of_wp ?_
  simp [Array.replicate]
  go_wp2
  refine ⟨rfl, .returning, by cases c₀; simp_all, _, by simp [results, Tryd.results66], rfl, rfl, rfl⟩

set_option maxHeartbeats 400000 in
theorem caught34_no (F : Nat) (p : Addr) (er : Int) (w : World)
    (hpart : Calls Tryd.prog F #[.pointer (some p)] (w.alloc (.cells #[.int .i64 0] 59)) fun e w' => e = GiveUp er ∧ Below (w.heap.size + 1) (w.alloc (.cells #[.int .i64 0] 59)) w') (hF : ∀ args w, (callFunc F args).run Tryd.prog w = .ok (.enter F args) w) :
    Calls Tryd.prog 52 #[.func (Fn.func F) #[] #[.pointer (some p)]] w fun e w' => e = .returned (.tuple #[.slice none 0 0, .int .i64 er]) ∧ Below w.heap.size w w' := by
  have hmf : ∀ (fn : Fn) (first cap : Array Value) (w : World), (Instr.makeFunc fn first cap).run Tryd.prog w = .ok (.func fn first cap) w := fun _ _ _ _ => rfl
  have HP := hide hpart
  clear hpart
  go_enter_defers Tryd.func52, Tryd.ntmps52
  go_wp2_with fail
  refine (unhide HP).mono ?_
  rintro e w1 ⟨rfl, hb1⟩
  have hbw : Below w.heap.size w w1 := (below_box _).trans (hb1.mono (by omega))
  have hce : w1.heap[w.heap.size]? = some (.cells #[.int .i64 0] 59) := (hb1.block _ (by omega)).trans (heap_alloc_new w _)
  have hsz := (Array.getElem?_eq_some_iff.1 hce).1
  refine leaves_cons (f := 66) (args := #[.pointer (some ⟨w.heap.size, 0, none⟩)]) (by simp) (by simp [go_sem]) ?_
  refine (catch64_giveup w.heap.size 0 er _ (cell_at hce) (frozen_of_heap hce) hsz).mono ?_
  rintro e u' w'' ⟨rfl, rfl, rfl⟩
  have hcell : ((w1.setCell ⟨w.heap.size, 0, none⟩ (.int .i64 er)).alloc (.cells #[.int .i64 er] 115)).cell? ⟨w.heap.size, 0, none⟩ = some (.int .i64 er) :=
    cell_at (T := 59) (cs := #[.int .i64 er]) (by rw [Below.heap_alloc _ _ _ (by simpa [World.setCell] using hsz)]; exact one_setCell hce)
  simp [Leaves, settle, results, Tryd.results52, go_sem, hcell]
  exact (hbw.setCell (p := ⟨w.heap.size, 0, none⟩) (Nat.le_refl _) _).alloc (by simp [World.setCell]; omega) _

set_option maxHeartbeats 400000 in
theorem caught34_ok (F : Nat) (p : Addr) (w : World) (Φ : Value → World → Prop)
    (h2 : ∀ x w' u, Φ x w' → Φ x (w'.setCell ⟨w.heap.size, 0, none⟩ u)) (h3 : ∀ x w o, Φ x w → Φ x (w.alloc o))
    (hpart : Calls Tryd.prog F #[.pointer (some p)] (w.alloc (.cells #[.int .i64 0] 59)) fun e w' => ∃ x, e = .returned x ∧ Below (w.heap.size + 1) (w.alloc (.cells #[.int .i64 0] 59)) w' ∧ Φ x w') (hF : ∀ args w, (callFunc F args).run Tryd.prog w = .ok (.enter F args) w) :
    Calls Tryd.prog 52 #[.func (Fn.func F) #[] #[.pointer (some p)]] w fun e w' => ∃ x, e = .returned (.tuple #[x, .int .i64 0]) ∧ Below w.heap.size w w' ∧ Φ x w' := by
  have hmf : ∀ (fn : Fn) (first cap : Array Value) (w : World), (Instr.makeFunc fn first cap).run Tryd.prog w = .ok (.func fn first cap) w := fun _ _ _ _ => rfl
  have HP := hide hpart
  have H2 := hide h2
  have H3 := hide h3
  clear hpart h2 h3
  go_enter_defers Tryd.func52, Tryd.ntmps52
  go_wp2_with fail
  refine (unhide HP).mono ?_
  clear HP
  rintro e w1 ⟨x, rfl, hb1, hΦ⟩
  have HΦ := hide hΦ
  clear hΦ
  have hbw : Below w.heap.size w w1 := (below_box _).trans (hb1.mono (by omega))
  have hce : w1.heap[w.heap.size]? = some (.cells #[.int .i64 0] 59) := (hb1.block _ (by omega)).trans (heap_alloc_new w _)
  have hsz := (Array.getElem?_eq_some_iff.1 hce).1
  have c1 : w1.cell? ⟨w.heap.size, 0, none⟩ = some (.int .i64 0) := cell_at hce
  have c2 : w1.frozen? ⟨w.heap.size, 0, none⟩ = false := frozen_of_heap hce
  have HC := hide hce
  clear hce
  go_wp2
  refine leaves_cons (f := 66) (args := #[.pointer (some ⟨w.heap.size, 0, none⟩)]) (by simp) (by simp [go_sem]) ?_
  refine (catch64_idle w.heap.size _).mono ?_
  rintro e u' w'' ⟨rfl, rfl, rfl⟩
  have hcell : ((w1.setCell ⟨w.heap.size, 0, none⟩ (.int .i64 0)).alloc (.cells #[.int .i64 0] 115)).cell? ⟨w.heap.size, 0, none⟩ = some (.int .i64 0) :=
    cell_at (T := 59) (cs := #[.int .i64 0]) (by rw [Below.heap_alloc _ _ _ (by simpa [World.setCell] using hsz)]; exact one_setCell HC.out)
  have hbf : Below w.heap.size w ((w1.setCell ⟨w.heap.size, 0, none⟩ (.int .i64 0)).alloc (.cells #[.int .i64 0] 115)) :=
    (hbw.setCell (p := ⟨w.heap.size, 0, none⟩) (Nat.le_refl _) _).alloc (by simp [World.setCell]; omega) _
  have hΦ2 : Φ x ((w1.setCell ⟨w.heap.size, 0, none⟩ (.int .i64 0)).alloc (.cells #[.int .i64 0] 115)) := H3.out _ _ _ (H2.out _ _ _ HΦ.out)
  clear H2 H3 HΦ hmf
  generalize (w1.setCell ⟨w.heap.size, 0, none⟩ (.int .i64 0)).alloc (.cells #[.int .i64 0] 115) = wf at *
  simp [Leaves, settle, results, Tryd.results52, go_sem, hcell]
  exact ⟨hbf, hΦ2⟩

end Go.Proofs.YtldapckooohigaaDoor

/- One, whole. -/
namespace Go.Proofs.YtldapckooohigaaDoor
open Go.RowKit Go.Shelf
set_option maxRecDepth 100000

abbrev zz : Array Value := #[.int .i64 0, .int .i64 0, .int .i64 0, .int .i64 0, .int .i64 0]
def zeroI : Ins := ⟨0, 0, 0, 0, 0⟩
def oneX (l : List Int) (p : Int) : Ins := if oneE l p = 0 then rd l p.toNat else zeroI
def oneN (l : List Int) (p : Int) : Int := if oneE l p = 0 then p + sz (l.getD p.toNat 0) else 0
abbrev iW (x : Ins) : Value := iV x.ad x.op x.a x.b x.im
end Go.Proofs.YtldapckooohigaaDoor

/- readAll in pure terms: where instructions begin; how the list grows. -/
namespace Go.Proofs.YtldapckooohigaaDoor
open Go.RowKit
set_option maxRecDepth 100000

def bgB (L : List Ins) (i : Int) : Bool := L.any fun x => decide (x.ad = i)
/-- Where one of L begins. -/
def bgA (L : List Ins) : Array Value := (Array.range 512).map fun (i : Nat) => .bool (bgB L (i : Int))
theorem bgA_size (L : List Ins) : (bgA L).size = 512 := by simp [bgA]
theorem bgA_zero : Tryd.zeroCells118 = bgA [] := by kernel_rfl
theorem bgA_get (L : List Ins) (i : Nat) (h : i < 512) : (bgA L)[i]? = some (.bool (bgB L i)) := by simp [bgA, h]
theorem bgB_app (L : List Ins) (x : Ins) (i : Int) : bgB (L ++ [x]) i = (bgB L i || decide (x.ad = i)) := by simp [bgB]
theorem bgA_none (L : List Ins) (i : Nat) (h : 512 ≤ i) : (bgA L)[i]? = none := Array.getElem?_eq_none (by rw [bgA_size]; exact h)
theorem bgA_set (L : List Ins) (x : Ins) (p : Nat) (hx : x.ad = p) (hp : p < 512) : (bgA L).setIfInBounds p (.bool true) = bgA (L ++ [x]) := by
  refine Array.ext_getElem? fun i => ?_
  rw [Array.getElem?_setIfInBounds, bgA_size]
  by_cases hi : i < 512
  · rw [bgA_get _ i hi, bgA_get _ i hi, bgB_app, hx]
    by_cases e : p = i
    · rw [if_pos e, if_pos hp, e]; simp
    · rw [if_neg e, decide_eq_false (show ¬ (p : Int) = (i : Int) by omega), Bool.or_false]
  · rw [bgA_none _ i (by omega), bgA_none _ i (by omega), if_neg (by omega)]
theorem rd_ad (l : List Int) (p : Nat) : (rd l p).ad = p := rfl
theorem rd_op (l : List Int) (p : Nat) : (rd l p).op = l.getD p 0 := rfl
theorem vl_nonneg {l : List Int} (h : Byt l) : 0 ≤ vl l ∧ vl l ≤ 65535 := by
  match l, h with
  | [], _ => simp [vl]
  | [x], h => have := h x (by simp); simp [vl]; omega
  | x :: y :: _, h => have := h x (by simp); have := h y (by simp); simp [vl]; omega
theorem rd_im {l : List Int} (h : Byt l) (p : Nat) (hj : jmp (rd l p) = true) : 0 ≤ (rd l p).im := by
  have hj := of_decide_eq_true hj
  rw [rd_op] at hj
  show 0 ≤ imm _ _
  unfold imm
  rw [if_neg (by omega)]
  exact (vl_nonneg ((h.drop _).take _)).1
/-- What readAll's list is at the address p. -/
structure Rl (l : List Int) (p : Nat) (L : List Ins) : Prop where
  wk : wkR l 0 = (L ++ (wkR l p).1, (wkR l p).2)
  hp : p ≤ l.length
  len : L.length ≤ p
  mem : ∀ x ∈ L, ∃ q, q < p ∧ x = rd l q ∧ oneE l q = 0
theorem Rl.start (l : List Int) : Rl l 0 [] := ⟨by simp, Nat.zero_le _, Nat.le_refl _, fun x h => by cases h⟩
theorem Rl.step {l : List Int} {p : Nat} {L : List Ins} (h : Rl l p L) (h0 : oneE l p = 0) : Rl l (p + sA l p) (L ++ [rd l p]) := by
  have hs := sA_pos h0
  refine ⟨?_, by omega, by have := h.len; simp; omega, fun x hx => ?_⟩
  · rw [h.wk, wkR_yes h0]
    simp
  · rcases List.mem_append.1 hx with hx | hx
    · obtain ⟨q, hq, e, e2⟩ := h.mem x hx
      exact ⟨q, by omega, e, e2⟩
    · obtain rfl : x = rd l p := by simpa using hx
      exact ⟨p, by omega, rfl, h0⟩
theorem Rl.done {l : List Int} {p : Nat} {L : List Ins} (h : Rl l p L) (hp : l.length ≤ p) : wkR l 0 = (L, 0) := by
  rw [h.wk, wkR_end hp]; simp
theorem Rl.stop {l : List Int} {p : Nat} {L : List Ins} (h : Rl l p L) (hp : p < l.length) (h0 : oneE l p ≠ 0) : wkR l 0 = (L, oneE l p) := by
  rw [h.wk, wkR_no hp h0]; simp
end Go.Proofs.YtldapckooohigaaDoor
