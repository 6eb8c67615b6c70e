/- Contracts of take's deferred function. -/
import Derived.Test.YtggllgimlfchhaaGreatKP
import Derived.Defers
import Derived.Recover
import Derived.Laws.Pointers
namespace Go.Proofs.YtggllgimlfchhaaGreat
open Go.RowKit
set_option maxRecDepth 100000

theorem ta_yes (er : Int) (w : World) : (Instr.typeAssert (.iface 166 (.agg #[.int .i64 er])) 20 166 true).run Tryz.prog w = .ok (.tuple #[.agg #[.int .i64 er], .bool true]) w := by kernel_rfl
theorem ta_no (w : World) : (Instr.typeAssert .nilIface 20 166 true).run Tryz.prog w = .ok (.tuple #[.agg #[.int .i64 0], .bool false]) w := by kernel_rfl

set_option maxHeartbeats 400000 in
theorem catch_giveup (b : Nat) (x er : Int) (w : World) (hc : w.cell? ⟨b, 0, none⟩ = some (.int .i64 x)) (hz : w.frozen? ⟨b, 0, none⟩ = false) (hp : b < w.heap.size) :
    CallsD Tryz.prog 162 #[.pointer (some ⟨b, 0, none⟩)] (.panicking [{ v := .iface 166 (.agg #[.int .i64 er]), recovered := false }]) w fun e u' w' =>
      e = .returned (.tuple #[]) ∧ u' = .panicking [{ v := .iface 166 (.agg #[.int .i64 er]), recovered := true }] ∧ w' = (w.setCell ⟨b, 0, none⟩ (.int .i64 er)).alloc (.cells #[.int .i64 er] 166) := by
  have hta := ta_yes er
  have hne : ¬ b = w.heap.size := by omega
  refine callsD_of_wpS Tryz.func162 rfl fun c₀ cs hu => ?_
  apply wpS_seq
  apply wpS_region
  simp [wpOpsS, go_sem, recoverD, hu, Tryz.ntmps162, Exit.thenS]
  refine wpS_of_wp ?_
  simp [Array.replicate]
  go_wp2
  exact ⟨rfl, _, rfl, _, by simp [results, Tryz.results162], rfl, rfl, rfl⟩

set_option maxHeartbeats 400000 in
theorem catch_idle (b : Nat) (w : World) :
    CallsD Tryz.prog 162 #[.pointer (some ⟨b, 0, none⟩)] .returning w fun e u' w' =>
      e = .returned (.tuple #[]) ∧ u' = .returning ∧ w' = w.alloc (.cells #[.int .i64 0] 166) := by
  have hta := ta_no
  refine callsD_of_wpS Tryz.func162 rfl fun c₀ cs hu => ?_
  apply wpS_seq
  apply wpS_region
  simp [wpOpsS, go_sem, recoverD, hu, Tryz.ntmps162, Exit.thenS]
  refine wpS_of_wp ?_
  simp [Array.replicate]
  go_wp2
  refine ⟨rfl, .returning, by cases c₀; simp_all, _, by simp [results, Tryz.results162], rfl, rfl, rfl⟩

theorem tn_no (l : List Int) (h : (tn l).2.2 ≠ 0) : (tn l).1 = 0 ∧ (tn l).2.1 = 0 := by
  cases l with
  | nil => exact ⟨rfl, rfl⟩
  | cons x r =>
    simp only [tn] at h ⊢
    repeat' split
    all_goals first | exact ⟨rfl, rfl⟩ | (exfalso; apply h; simp only [*, if_true, if_false]; done) | skip
    all_goals simp_all

/-- The world in which take calls its part: the error's cell, and the reader. -/
def tw (w : World) (bv : Value) : World := (w.alloc (.cells #[.int .i64 0] 36)).alloc (.cells #[bv, .int .i64 0] 169)
theorem tw_below (w : World) (bv : Value) : Below w.heap.size w (tw w bv) := ((Below.refl _ _).alloc (Nat.le_refl _) _).alloc (by simp) _
theorem tw_size (w : World) (bv : Value) : (tw w bv).heap.size = w.heap.size + 2 := by simp [tw]
theorem tw_at (w : World) (bv : Value) : AtR (tw w bv) (w.heap.size + 1) bv 0 := by
  have := heap_alloc_new (w.alloc (.cells #[.int .i64 0] 36)) (.cells #[bv, .int .i64 0] 169)
  simpa [AtR, tw] using this
theorem tw_err (w : World) (bv : Value) : (tw w bv).heap[w.heap.size]? = some (.cells #[.int .i64 0] 36 (0, 0)) := by
  rw [tw, Below.heap_alloc _ _ _ (by simp)]
  exact heap_alloc_new w _
theorem tw_sees {w : World} {bv : Value} {zs : List Int} (hs : Sees w .u8 bv zs) : SeesB (w.heap.size + 1) (tw w bv) .u8 bv zs :=
  (hs.upto.below (tw_below w bv) (Nat.le_refl _)).mono (by omega)

set_option maxHeartbeats 400000 in
theorem take30_no (ao : Option Addr) (len cap : Nat) (er : Int) (w : World)
    (hpart : Calls Tryz.prog 141 #[.pointer (some ⟨w.heap.size + 1, 0, none⟩)] (tw w (.slice ao len cap)) fun e w' => e = GiveUp er ∧ Below (w.heap.size + 1) (tw w (.slice ao len cap)) w') :
    Calls Tryz.prog 156 #[.slice ao len cap, .func (Fn.func 141) #[] #[]] w fun e w' => e = .returned (.tuple #[.int .i64 0, .int .i64 0, .int .i64 er]) ∧ Below w.heap.size w w' := by
  have hmf : ∀ (fn : Fn) (first cap : Array Value) (w : World), (Instr.makeFunc fn first cap).run Tryz.prog w = .ok (.func fn first cap) w := fun _ _ _ _ => rfl
  have HP := hide hpart
  clear hpart
  go_enter_defers Tryz.func156, Tryz.ntmps156
  go_wp2_with fail
  refine (unhide HP).mono ?_
  rintro e w1 ⟨rfl, hb1⟩
  have hbw : Below w.heap.size w w1 := (tw_below w _).trans (hb1.mono (by omega))
  have hce : w1.heap[w.heap.size]? = some (.cells #[.int .i64 0] 36 (0, 0)) := (hb1.block _ (by omega)).trans (tw_err w _)
  have hsz := lt_of_block hce
  refine leaves_cons (f := 162) (args := #[.pointer (some ⟨w.heap.size, 0, none⟩)]) (by simp) (by simp [go_sem]) ?_
  refine (catch_giveup w.heap.size 0 er _ (cell_of_one hce) (free_of_one hce) hsz).mono ?_
  rintro e u' w'' ⟨rfl, rfl, rfl⟩
  have hcell : ((w1.setCell ⟨w.heap.size, 0, none⟩ (.int .i64 er)).alloc (.cells #[.int .i64 er] 166)).cell? ⟨w.heap.size, 0, none⟩ = some (.int .i64 er) :=
    cell_of_one (t := 36) (by rw [Below.heap_alloc _ _ _ (by simpa [World.setCell] using hsz)]; exact one_setCell hce)
  simp [Leaves, settle, results, Tryz.results156, go_sem, hcell]
  exact (hbw.setCell (p := ⟨w.heap.size, 0, none⟩) (Nat.le_refl _) _).alloc (by simp [World.setCell]; omega) _

set_option maxHeartbeats 400000 in
theorem take30_ok (ao : Option Addr) (len cap : Nat) (k : Nat) (w : World) (Φ : Value → World → Prop)
    (h1 : ∀ x w j, Φ x w → Φ x (w.drewN j)) (h2 : ∀ x w' u, Φ x w' → Φ x (w'.setCell ⟨w.heap.size, 0, none⟩ u)) (h3 : ∀ x w o, Φ x w → Φ x (w.alloc o))
    (hpart : Calls Tryz.prog 141 #[.pointer (some ⟨w.heap.size + 1, 0, none⟩)] (tw w (.slice ao len cap)) fun e w' => ∃ x, e = .returned x ∧ AtR w' (w.heap.size + 1) (.slice ao len cap) k ∧ Below (w.heap.size + 1) (tw w (.slice ao len cap)) w' ∧ Φ x w') :
    Calls Tryz.prog 156 #[.slice ao len cap, .func (Fn.func 141) #[] #[]] w fun e w' => ∃ x, e = .returned (.tuple #[x, .int .i64 k, .int .i64 0]) ∧ Below w.heap.size w w' ∧ Φ x w' := by
  have hmf : ∀ (fn : Fn) (first cap : Array Value) (w : World), (Instr.makeFunc fn first cap).run Tryz.prog w = .ok (.func fn first cap) w := fun _ _ _ _ => rfl
  have HP := hide hpart
  have H1 := hide h1
  have H2 := hide h2
  have H3 := hide h3
  clear hpart h1 h2 h3
  go_enter_defers Tryz.func156, Tryz.ntmps156
  go_wp2_with fail
  refine (unhide HP).mono ?_
  clear HP
  rintro e w1 ⟨x, rfl, hat, hb1, hΦ⟩
  have HΦ := hide hΦ
  clear hΦ
  have hbw : Below w.heap.size w w1 := (tw_below w _).trans (hb1.mono (by omega))
  have hce : w1.heap[w.heap.size]? = some (.cells #[.int .i64 0] 36 (0, 0)) := (hb1.block _ (by omega)).trans (tw_err w _)
  have hsz := lt_of_block hce
  have c1 := cell_of_one hce
  have c2 := free_of_one hce
  have c3 := hat.c1
  have HC := hide hce
  have HT := hide hat
  clear hce hat
  go_wp2
  go_region
  go_wp2
  refine leaves_cons (f := 162) (args := #[.pointer (some ⟨w.heap.size, 0, none⟩)]) (by simp) (by simp [go_sem]) ?_
  refine (catch_idle w.heap.size _).mono ?_
  rintro e u' w'' ⟨rfl, rfl, rfl⟩
  have hcell : ((w1.setCell ⟨w.heap.size, 0, none⟩ (.int .i64 0)).drew.alloc (.cells #[.int .i64 0] 166)).cell? ⟨w.heap.size, 0, none⟩ = some (.int .i64 0) :=
    cell_of_one (t := 36) (by rw [Below.heap_alloc _ _ _ (by simpa [World.setCell] using hsz)]; exact one_setCell HC.out)
  have hbf : Below w.heap.size w ((w1.setCell ⟨w.heap.size, 0, none⟩ (.int .i64 0)).drew.alloc (.cells #[.int .i64 0] 166)) :=
    (hbw.setCell (p := ⟨w.heap.size, 0, none⟩) (Nat.le_refl _) _).drew.alloc (by simp [World.setCell]; omega) _
  have hΦ2 : Φ x ((w1.setCell ⟨w.heap.size, 0, none⟩ (.int .i64 0)).drew.alloc (.cells #[.int .i64 0] 166)) :=
    H3.out _ _ _ (H1.out _ _ 1 (H2.out _ _ _ HΦ.out))
  clear H1 H2 H3 HΦ hmf
  generalize (w1.setCell ⟨w.heap.size, 0, none⟩ (.int .i64 0)).drew.alloc (.cells #[.int .i64 0] 166) = wf at *
  simp [Leaves, settle, results, Tryz.results156, go_sem, hcell]
  exact ⟨hbf, hΦ2⟩

set_option maxHeartbeats 400000 in
/-- TakeNum. -/
theorem takeNum_any (bv : Value) (zs : List Int) (w : World) (hs : Sees w .u8 bv zs) (hby : Byt zs) (hm : zs.length ≤ 140737488355328) :
    Calls Tryz.prog 133 #[bv] w fun e w' => e = .returned (.tuple #[.int .i64 (tn zs).1, .int .i64 (tn zs).2.1, .int .i64 (tn zs).2.2]) ∧ Below w.heap.size w w' := by
  have hst := tw_sees hs
  have hnum := number_any (w.heap.size + 1) bv zs 0 (tw w bv) (tw_at w bv) hst hby hm (Nat.zero_le _)
  rw [List.drop_zero] at hnum
  obtain ⟨ao, cap, rfl, hlc, hnil, hc⟩ := hs
  have key : Calls Tryz.prog 156 #[.slice ao zs.length cap, .func (Fn.func 141) #[] #[]] w fun e w' => e = .returned (.tuple #[.int .i64 (tn zs).1, .int .i64 (tn zs).2.1, .int .i64 (tn zs).2.2]) ∧ Below w.heap.size w w' := by
    by_cases he : (tn zs).2.2 = 0
    · refine (take30_ok ao zs.length cap (tn zs).2.1 w (fun x _ => x = .int .i64 (tn zs).1) (fun _ _ _ h => h) (fun _ _ _ h => h) (fun _ _ _ h => h) (hnum.mono ?_)).mono ?_
      · rintro e w' ⟨h1, h2, _⟩
        obtain ⟨h3, h4, _⟩ := h2 he
        rw [Nat.zero_add] at h4
        exact ⟨_, h3, h4, h1, rfl⟩
      · rintro e w' ⟨x, rfl, hb, rfl⟩
        exact ⟨by rw [he], hb⟩
    · refine (take30_no ao zs.length cap (tn zs).2.2 w (hnum.mono ?_)).mono ?_
      · rintro e w' ⟨h1, _, h3⟩
        exact ⟨h3 he, h1⟩
      · rintro e w' ⟨rfl, hb⟩
        obtain ⟨e1, e2⟩ := tn_no zs he
        exact ⟨by rw [e1, e2]; rfl, hb⟩
  have HK := hide key
  clear key hst hnum hc
  go_enter Tryz.func133, Tryz.ntmps133
  go_wp2_with (go_at_call 156; refine (unhide HK).mono ?_; rintro e w1 ⟨rfl, hb⟩)
  go_ret3
  exact ⟨rfl, hb⟩

end Go.Proofs.YtggllgimlfchhaaGreat
