/- The document's One, whole. -/
import Derived.Test.YtknpfippdddnhabDoorJT
import Derived.Test.YtknpfippdddnhabDoorT02
import Derived.Test.YtknpfippdddnhabDoorT12
namespace Go.Proofs.YtknpfippdddnhabDoor
open Go.RowKit Go.Shelf
set_option maxRecDepth 100000

theorem rone_out (ao : Option Addr) (n cap : Nat) (p : Int) (w : World) (h : ¬ (0 ≤ p ∧ p < n)) : Calls Tryd.prog 34 #[.slice ao n cap, .int .i64 p] w fun e w' => e = .returned (.tuple #[iV 0 0 0 0 0, .int .i64 0, .int .i64 130]) ∧ Below w.heap.size w w' := by
  have HB : Hid (Below w.heap.size w (w.alloc (.cells #[.int .i64 0, .int .i64 0, .int .i64 0, .int .i64 0, .int .i64 0] 35))) := below_box _
  have hz : ∀ o, (w.alloc (.cells #[.int .i64 0, .int .i64 0, .int .i64 0, .int .i64 0, .int .i64 0] 35)).cell? ⟨w.heap.size, o, none⟩ = #[Value.int .i64 0, .int .i64 0, .int .i64 0, .int .i64 0, .int .i64 0][o]? := fun o => cell_at (heap_alloc_new w _)
  have z0 := hz 0
  have z1 := hz 1
  have z2 := hz 2
  have z3 := hz 3
  have z4 := hz 4
  simp only [List.getElem?_toArray, List.getElem?_cons_zero, List.getElem?_cons_succ] at z0 z1 z2 z3 z4
  by_cases h0 : p < 0
  · have g1 : decide (p < 0) = true := decide_eq_true h0
    clear h h0 hz
    go_enter Tryd.func34, Tryd.ntmps34
    go_wp2
    exact bodyPost_ret (v := .tuple #[iV 0 0 0 0 0, .int .i64 0, .int .i64 130]) (by simp [results, Tryd.results34, go_sem]) rfl ⟨rfl, unhide HB⟩
  · have g1 : decide (p < 0) = false := decide_eq_false h0
    have g2 : decide (p ≥ (n : Int)) = true := decide_eq_true (by omega)
    have g3 : decide ((n : Int) ≤ p) = true := decide_eq_true (by omega)
    clear h h0 hz
    go_enter Tryd.func34, Tryd.ntmps34
    go_wp2
    exact bodyPost_ret (v := .tuple #[iV 0 0 0 0 0, .int .i64 0, .int .i64 130]) (by simp [results, Tryd.results34, go_sem]) rfl ⟨rfl, unhide HB⟩
set_option maxHeartbeats 800000 in
theorem rone_short (ga oa n cap p : Nat) (op : Int) (w : World) (hn : n ≤ 4611686018427387900) (hp : p < n) (h0 : 0 ≤ op) (h1 : op ≤ 255) (hc : w.cell? ⟨ga, oa + p, none⟩ = some (.int .u8 op)) (h : sz op = 0 ∨ (n : Int) - p < sz op) :
    Calls Tryd.prog 34 #[.slice (some ⟨ga, oa, none⟩) n cap, .int .i64 p] w fun e w' => e = .returned (.tuple #[iV 0 0 0 0 0, .int .i64 0, .int .i64 130]) ∧ Below w.heap.size w w' := by
  have HB : Hid (Below w.heap.size w (w.alloc (.cells #[.int .i64 0, .int .i64 0, .int .i64 0, .int .i64 0, .int .i64 0] 35))) := below_box _
  have HS := hide (fun w => rsize_any op w)
  have hf : sz op ≤ 4 ∧ 0 ≤ sz op := by
    by_cases z : 0 ≤ op ∧ op < 28
    · have := op_facts z.1 z.2; omega
    · rw [sz_none z]; omega
  obtain ⟨s, hs⟩ : ∃ s, sz op = s := ⟨_, rfl⟩
  rw [hs] at HS h hf
  clear hs
  have c0 : ∀ o, (w.alloc o).cell? ⟨ga, oa + p, none⟩ = some (.int .u8 op) := fun o => ((below_box o).cell (World.block_lt_of_cell? w _ hc)).trans hc
  have g1 : decide ((p : Int) < 0) = false := decide_eq_false (by omega)
  have g2 : decide ((p : Int) ≥ (n : Int)) = false := decide_eq_false (by omega)
  have g3 : decide ((n : Int) ≤ (p : Int)) = false := decide_eq_false (by omega)
  have g4 : IntKind.i64.wrap ((n : Int) - (p : Int)) = (n : Int) - (p : Int) := wrap_i64 _ (by omega) (by omega)
  have g7 : (0 : Int) ≤ (p : Int) := by omega
  have g8 : (p : Int) < (n : Int) := by omega
  by_cases hz : s = 0
  · subst hz
    clear h hc
    go_enter Tryd.func34, Tryd.ntmps34
    go_wp2_with (go_at_call 44; refine (unhide HS _).mono ?_; rintro e w2 ⟨rfl, rfl⟩)
    exact bodyPost_ret (v := .tuple #[iV 0 0 0 0 0, .int .i64 0, .int .i64 130]) (by simp [results, Tryd.results34, go_sem]) rfl ⟨rfl, unhide HB⟩
  · have g9 : (s == 0) = false := by simpa using hz
    have hl := h.resolve_left hz
    have g5 : decide (s > (n : Int) - (p : Int)) = true := decide_eq_true (by omega)
    have g6 : decide ((n : Int) - (p : Int) < s) = true := decide_eq_true (by omega)
    clear h hc hz hl
    go_enter Tryd.func34, Tryd.ntmps34
    go_wp2_with (go_at_call 44; refine (unhide HS _).mono ?_; rintro e w2 ⟨rfl, rfl⟩)
    exact bodyPost_ret (v := .tuple #[iV 0 0 0 0 0, .int .i64 0, .int .i64 130]) (by simp [results, Tryd.results34, go_sem]) rfl ⟨rfl, unhide HB⟩
theorem no22 : ∀ y : Fin 28, ¬ (rg (y.val : Int) = 2 ∧ wd (y.val : Int) = 2) := by decide
theorem rd_eq {l : List Int} {p r d : Nat} {op m : Int} (ho : l.getD p 0 = op) (hr : rg op = r) (hd : wd op = d) (hm : imm op ((l.drop (p + 1 + r)).take d) = m) : rd l p = ⟨p, op, if 1 ≤ r then l.getD (p + 1) 0 else 0, if 2 ≤ r then l.getD (p + 2) 0 else 0, m⟩ := by
  unfold rd
  rw [ho, hr, hd, hm]
/-- The document's One. -/
theorem rone_any {w : World} {v : Value} {l : List Int} (p : Int) (hs : SeesL yC 1 w v l) (hby : Byt l) (hm : l.length ≤ 4611686018427387900) :
    Calls Tryd.prog 34 #[v, .int .i64 p] w fun e w' => e = .returned (.tuple #[iW (oneX l p), .int .i64 (oneN l p), .int .i64 (oneE l p)]) ∧ Below w.heap.size w w' := by
  obtain ⟨ao, cap, gb, ob, rfl, hcap, hao, hn, hc⟩ := hs.bytes
  by_cases hp : 0 ≤ p ∧ p < l.length
  · obtain ⟨q, rfl⟩ := Int.eq_ofNat_of_zero_le hp.1
    have hq : q < l.length := by omega
    obtain rfl := hao (by omega)
    have hb := hby.get q
    by_cases hsh : sz (l.getD q 0) = 0 ∨ (l.length : Int) - q < sz (l.getD q 0)
    · have hE : oneE l q = 130 := by unfold oneE; rw [if_pos hp, Int.toNat_natCast, if_pos hsh]
      have hX : oneX l q = zeroI := if_neg (by rw [hE]; decide)
      have hN : oneN l q = 0 := if_neg (by rw [hE]; decide)
      rw [hE, hX, hN]
      exact rone_short gb ob l.length cap q (l.getD q 0) w hm hq hb.1 hb.2 (hc q hq) hsh
    · have hE : oneE l q = if sd (rd l q) = true then 0 else 132 := by unfold oneE; rw [if_pos hp, Int.toNat_natCast, if_neg hsh]
      obtain ⟨op, hop⟩ : ∃ op, l.getD q 0 = op := ⟨_, rfl⟩
      simp only [not_or] at hsh
      rw [hop] at hsh hb
      have hr28 := sz_pos hsh.1
      obtain ⟨f1, f2, f3, f4, f5, f6⟩ := op_facts hr28.1 hr28.2
      have hc0 := hc q hq
      rw [hop] at hc0
      have hcell : ∀ i, q + i < l.length → w.cell? ⟨gb, ob + q + i, none⟩ = some (.int .u8 (l.getD (q + i) 0)) := fun i hi => by rw [Nat.add_assoc]; exact hc _ hi
      have key : ∀ (X : Ins) (s : Nat), rd l q = X → (s : Int) = sz op → (Calls Tryd.prog 34 #[.slice (some ⟨gb, ob, none⟩) l.length cap, .int .i64 q] w fun e w' => e = .returned (.tuple (if sd X = true then #[iW X, .int .i64 ((q : Int) + s), .int .i64 0] else #[iV 0 0 0 0 0, .int .i64 0, .int .i64 132])) ∧ Below w.heap.size w w') → Calls Tryd.prog 34 #[.slice (some ⟨gb, ob, none⟩) l.length cap, .int .i64 q] w fun e w' => e = .returned (.tuple #[iW (oneX l q), .int .i64 (oneN l q), .int .i64 (oneE l q)]) ∧ Below w.heap.size w w' := fun X s hX hS hC => by
        refine hC.mono fun e w' h => ⟨?_, h.2⟩
        rw [h.1]
        by_cases hsd : sd X = true
        · have hE0 : oneE l q = 0 := by rw [hE, hX, if_pos hsd]
          have h1 : oneX l q = X := by unfold oneX; rw [if_pos hE0, Int.toNat_natCast, hX]
          have h2 : oneN l q = (q : Int) + s := by unfold oneN; rw [if_pos hE0, Int.toNat_natCast, hop, hS]
          rw [if_pos hsd, h1, h2, hE0]
        · have hE0 : oneE l q = 132 := by rw [hE, hX, if_neg hsd]
          have h1 : oneX l q = zeroI := if_neg (by rw [hE0]; decide)
          have h2 : oneN l q = 0 := if_neg (by rw [hE0]; decide)
          rw [if_neg hsd, h1, h2, hE0]
          rfl
      have hn22 := no22 ⟨op.toNat, by omega⟩
      simp only [Int.toNat_of_nonneg hr28.1] at hn22
      rcases (by omega : rg op = 0 ∨ rg op = 1 ∨ rg op = 2) with hr | hr | hr <;> rcases (by omega : wd op = 0 ∨ wd op = 1 ∨ wd op = 2) with hd | hd | hd
      · have h1 : op ≠ 1 := fun z => by subst z; exact absurd hr (by decide)
        exact key _ 1 (rd_eq hop hr hd (m := 0) (by simp [imm, h1, vl])) (by omega) (rone00 w gb ob l.length cap q op hr28.1 hr28.2 hr hd hm (by omega) hc0)
      · have h1 : op ≠ 1 := fun z => by subst z; exact absurd hr (by decide)
        exact key _ 2 (rd_eq hop hr hd (m := l.getD (q + 1) 0) (by rw [take1 (by omega)]; simp only [imm, if_neg h1]; rfl)) (by omega) (rone01 w gb ob l.length cap q op hr28.1 hr28.2 hr hd _ hm (by omega) hc0 (hby.get _) (hcell 1 (by omega)))
      · have h1 : op ≠ 1 := fun z => by subst z; exact absurd hr (by decide)
        exact key _ 3 (rd_eq hop hr hd (m := l.getD (q + 1) 0 + 256 * l.getD (q + 1 + 1) 0) (by rw [take2 (by omega)]; simp only [imm, if_neg h1]; rfl)) (by omega) (rone02 w gb ob l.length cap q op hr28.1 hr28.2 h1 hr hd _ _ hm (by omega) hc0 (hby.get _) (hcell 1 (by omega)) (hby.get _) (hcell 2 (by omega)))
      · have h1 : op ≠ 1 := fun z => by subst z; exact absurd hd (by decide)
        exact key _ 2 (rd_eq hop hr hd (m := 0) (by simp [imm, h1, vl])) (by omega) (rone10 w gb ob l.length cap q op hr28.1 hr28.2 hr hd _ hm (by omega) hc0 (hby.get _) (hcell 1 (by omega)))
      · have h1 : op ≠ 1 := fun z => by subst z; exact absurd hd (by decide)
        exact key _ 3 (rd_eq hop hr hd (m := l.getD (q + 1 + 1) 0) (by rw [take1 (by omega)]; simp only [imm, if_neg h1]; rfl)) (by omega) (rone11 w gb ob l.length cap q op hr28.1 hr28.2 hr hd _ _ hm (by omega) hc0 (hby.get _) (hcell 1 (by omega)) (hby.get _) (hcell 2 (by omega)))
      · by_cases h1 : op = 1
        · subst h1
          by_cases hsg : l.getD (q + 1 + 1) 0 + 256 * l.getD (q + 1 + 1 + 1) 0 < 32768
          · exact key _ 4 (rd_eq hop hr hd (m := l.getD (q + 1 + 1) 0 + 256 * l.getD (q + 1 + 1 + 1) 0) (by rw [take2 (by omega)]; exact (if_pos rfl).trans (if_pos hsg))) (by omega) (rone12p w gb ob l.length cap q _ _ _ hm (by omega) hc0 (hby.get _) (hcell 1 (by omega)) (hby.get _) (hcell 2 (by omega)) (hby.get _) (hcell 3 (by omega)) hsg)
          · exact key _ 4 (rd_eq hop hr hd (m := l.getD (q + 1 + 1) 0 + 256 * l.getD (q + 1 + 1 + 1) 0 - 65536) (by rw [take2 (by omega)]; exact (if_pos rfl).trans (if_neg hsg))) (by omega) (rone12n w gb ob l.length cap q _ _ _ hm (by omega) hc0 (hby.get _) (hcell 1 (by omega)) (hby.get _) (hcell 2 (by omega)) (hby.get _) (hcell 3 (by omega)) (Int.not_lt.1 hsg))
        · exact key _ 4 (rd_eq hop hr hd (m := l.getD (q + 1 + 1) 0 + 256 * l.getD (q + 1 + 1 + 1) 0) (by rw [take2 (by omega)]; simp only [imm, if_neg h1]; rfl)) (by omega) (rone12 w gb ob l.length cap q op hr28.1 hr28.2 h1 hr hd _ _ _ hm (by omega) hc0 (hby.get _) (hcell 1 (by omega)) (hby.get _) (hcell 2 (by omega)) (hby.get _) (hcell 3 (by omega)))
      · have h1 : op ≠ 1 := fun z => by subst z; exact absurd hd (by decide)
        exact key _ 3 (rd_eq hop hr hd (m := 0) (by simp [imm, h1, vl])) (by omega) (rone20 w gb ob l.length cap q op hr28.1 hr28.2 hr hd _ _ hm (by omega) hc0 (hby.get _) (hcell 1 (by omega)) (hby.get _) (hcell 2 (by omega)))
      · have h1 : op ≠ 1 := fun z => by subst z; exact absurd hd (by decide)
        exact key _ 4 (rd_eq hop hr hd (m := l.getD (q + 1 + 2) 0) (by rw [take1 (by omega)]; simp only [imm, if_neg h1]; rfl)) (by omega) (rone21 w gb ob l.length cap q op hr28.1 hr28.2 hr hd _ _ _ hm (by omega) hc0 (hby.get _) (hcell 1 (by omega)) (hby.get _) (hcell 2 (by omega)) (hby.get _) (hcell 3 (by omega)))
      · exact absurd ⟨hr, hd⟩ hn22
  · have hE : oneE l p = 130 := if_neg hp
    have hX : oneX l p = zeroI := if_neg (by rw [hE]; decide)
    have hN : oneN l p = 0 := if_neg (by rw [hE]; decide)
    rw [hE, hX, hN]
    exact rone_out ao l.length cap p w hp
end Go.Proofs.YtknpfippdddnhabDoor
