/- RecordWrites: the walk. -/
import Derived.Test.YtggllgimlfchhaaGreatGU
import Derived.Test.YtggllgimlfchhaaGreatCG
namespace Go.Proofs.YtggllgimlfchhaaGreat
open Go.RowKit
set_option maxRecDepth 100000

set_option maxHeartbeats 1600000 in
theorem recordWrites_walk {w : World} {ak af an : Int} {aa : Option Addr} {aL ac : Nat} {m0 m1 m2 m3 m4 m5 m6 mek mef men mps mpi mpm : Int} {mY : Bool} {mla mta mda : Option Addr} {mlL mlc mtL mtc mdL mdc : Nat} {E1 E2 : Int} {B1 B2 : List Int}
    (h15 : ∀ x, Below w.heap.size w x → Calls Tryz.prog 15 #[.agg #[.int .i64 ak, .int .i64 af, .int .i64 an, .slice aa aL ac]] x fun r y => ∃ u, r = .returned (.tuple #[u, .int .i64 E1]) ∧ y.ownsRow x.heap.size 5 1 u B1.length (ints .u8 B1) ∧ Below x.heap.size x y) (h16 : ∀ x, Below w.heap.size w x → Calls Tryz.prog 16 #[.agg #[.int .i64 ak, .int .i64 af, .int .i64 an, .slice aa aL ac]] x fun r y => ∃ u, r = .returned (.tuple #[u, .int .i64 E1]) ∧ y.ownsRow x.heap.size 5 1 u B1.length (ints .u8 B1) ∧ Below x.heap.size x y) (h17 : ∀ x, Below w.heap.size w x → Calls Tryz.prog 17 #[.agg #[.int .i64 m0, .int .i64 m1, .int .i64 m2, .int .i64 m3, .int .i64 m4, .int .i64 m5, .int .i64 m6, .bool mY, .slice mla mlL mlc, .int .i64 mek, .int .i64 mef, .int .i64 men, .slice mta mtL mtc, .int .i64 mps, .int .i64 mpi, .int .i64 mpm, .slice mda mdL mdc]] x fun r y => ∃ u, r = .returned (.tuple #[u, .int .i64 E2]) ∧ y.ownsRow x.heap.size 5 1 u B2.length (ints .u8 B2) ∧ Below x.heap.size x y) (h18 : ∀ x, Below w.heap.size w x → Calls Tryz.prog 18 #[.agg #[.int .i64 m0, .int .i64 m1, .int .i64 m2, .int .i64 m3, .int .i64 m4, .int .i64 m5, .int .i64 m6, .bool mY, .slice mla mlL mlc, .int .i64 mek, .int .i64 mef, .int .i64 men, .slice mta mtL mtc, .int .i64 mps, .int .i64 mpi, .int .i64 mpm, .slice mda mdL mdc]] x fun r y => ∃ u, r = .returned (.tuple #[u, .int .i64 E2]) ∧ y.ownsRow x.heap.size 5 1 u B2.length (ints .u8 B2) ∧ Below x.heap.size x y) (y1 : Byt B1) (y2 : Byt B2) :
    Calls Tryz.prog 4 #[.agg #[.int .i64 ak, .int .i64 af, .int .i64 an, .slice aa aL ac], .agg #[.int .i64 m0, .int .i64 m1, .int .i64 m2, .int .i64 m3, .int .i64 m4, .int .i64 m5, .int .i64 m6, .bool mY, .slice mla mlL mlc, .int .i64 mek, .int .i64 mef, .int .i64 men, .slice mta mtL mtc, .int .i64 mps, .int .i64 mpi, .int .i64 mpm, .slice mda mdL mdc]] w fun e w' => e = .returned (.bool true) ∧ Below w.heap.size w w' := by
  have H15 := hide h15
  have H16 := hide h16
  have H17 := hide h17
  have H18 := hide h18
  have HY1 := hide y1
  have HY2 := hide y2
  have hB2 : Below w.heap.size w ((w.alloc (.cells #[.int .i64 ak, .int .i64 af, .int .i64 an, .slice aa aL ac] 29)).alloc (.cells #[.int .i64 m0, .int .i64 m1, .int .i64 m2, .int .i64 m3, .int .i64 m4, .int .i64 m5, .int .i64 m6, .bool mY, .slice mla mlL mlc, .int .i64 mek, .int .i64 mef, .int .i64 men, .slice mta mtL mtc, .int .i64 mps, .int .i64 mpi, .int .i64 mpm, .slice mda mdL mdc] 34)) := ((Below.refl _ _).alloc (Nat.le_refl _) _).alloc (by simp) _
  have hS2 : ((w.alloc (.cells #[.int .i64 ak, .int .i64 af, .int .i64 an, .slice aa aL ac] 29)).alloc (.cells #[.int .i64 m0, .int .i64 m1, .int .i64 m2, .int .i64 m3, .int .i64 m4, .int .i64 m5, .int .i64 m6, .bool mY, .slice mla mlL mlc, .int .i64 mek, .int .i64 mef, .int .i64 men, .slice mta mtL mtc, .int .i64 mps, .int .i64 mpi, .int .i64 mpm, .slice mda mdL mdc] 34)).heap.size = w.heap.size + 2 := by simp
  have e1 : (w.alloc (.cells #[.int .i64 ak, .int .i64 af, .int .i64 an, .slice aa aL ac] 29)).heap.size = w.heap.size + 1 := by simp
  have g0 : ((w.alloc (.cells #[.int .i64 ak, .int .i64 af, .int .i64 an, .slice aa aL ac] 29)).alloc (.cells #[.int .i64 m0, .int .i64 m1, .int .i64 m2, .int .i64 m3, .int .i64 m4, .int .i64 m5, .int .i64 m6, .bool mY, .slice mla mlL mlc, .int .i64 mek, .int .i64 mef, .int .i64 men, .slice mta mtL mtc, .int .i64 mps, .int .i64 mpi, .int .i64 mpm, .slice mda mdL mdc] 34)).heap[w.heap.size]? = some (.cells #[.int .i64 ak, .int .i64 af, .int .i64 an, .slice aa aL ac] 29) := (Below.heap_alloc _ _ _ (by omega)).trans (heap_alloc_new w _)
  have g1 : ((w.alloc (.cells #[.int .i64 ak, .int .i64 af, .int .i64 an, .slice aa aL ac] 29)).alloc (.cells #[.int .i64 m0, .int .i64 m1, .int .i64 m2, .int .i64 m3, .int .i64 m4, .int .i64 m5, .int .i64 m6, .bool mY, .slice mla mlL mlc, .int .i64 mek, .int .i64 mef, .int .i64 men, .slice mta mtL mtc, .int .i64 mps, .int .i64 mpi, .int .i64 mpm, .slice mda mdL mdc] 34)).heap[w.heap.size + 1]? = some (.cells #[.int .i64 m0, .int .i64 m1, .int .i64 m2, .int .i64 m3, .int .i64 m4, .int .i64 m5, .int .i64 m6, .bool mY, .slice mla mlL mlc, .int .i64 mek, .int .i64 mef, .int .i64 men, .slice mta mtL mtc, .int .i64 mps, .int .i64 mpi, .int .i64 mpm, .slice mda mdL mdc] 34) := by have := heap_alloc_new (w.alloc (.cells #[.int .i64 ak, .int .i64 af, .int .i64 an, .slice aa aL ac] 29)) (.cells #[.int .i64 m0, .int .i64 m1, .int .i64 m2, .int .i64 m3, .int .i64 m4, .int .i64 m5, .int .i64 m6, .bool mY, .slice mla mlL mlc, .int .i64 mek, .int .i64 mef, .int .i64 men, .slice mta mtL mtc, .int .i64 mps, .int .i64 mpi, .int .i64 mpm, .slice mda mdL mdc] 34); rw [e1] at this; exact this
  obtain ⟨w2, hw2⟩ : ∃ y, ((w.alloc (.cells #[.int .i64 ak, .int .i64 af, .int .i64 an, .slice aa aL ac] 29)).alloc (.cells #[.int .i64 m0, .int .i64 m1, .int .i64 m2, .int .i64 m3, .int .i64 m4, .int .i64 m5, .int .i64 m6, .bool mY, .slice mla mlL mlc, .int .i64 mek, .int .i64 mef, .int .i64 men, .slice mta mtL mtc, .int .i64 mps, .int .i64 mpi, .int .i64 mpm, .slice mda mdL mdc] 34)) = y := ⟨_, rfl⟩
  rw [hw2] at hB2 hS2 g0 g1
  have HX : Hid (∀ x, Below (w.heap.size + 2) w2 x → x.heap[w.heap.size]? = some (.cells #[.int .i64 ak, .int .i64 af, .int .i64 an, .slice aa aL ac] 29) ∧ x.heap[w.heap.size + 1]? = some (.cells #[.int .i64 m0, .int .i64 m1, .int .i64 m2, .int .i64 m3, .int .i64 m4, .int .i64 m5, .int .i64 m6, .bool mY, .slice mla mlL mlc, .int .i64 mek, .int .i64 mef, .int .i64 men, .slice mta mtL mtc, .int .i64 mps, .int .i64 mpi, .int .i64 mpm, .slice mda mdL mdc] 34)) := fun x hb => ⟨(hb.block _ (by omega)).trans g0, (hb.block _ (by omega)).trans g1⟩
  have HBW : Hid (∀ x, Below (w.heap.size + 2) w2 x → Below w.heap.size w x) := fun x hb => hB2.trans (hb.mono (by omega))
  have HTR : Hid (∀ x y, Below (w.heap.size + 2) w2 x → Below x.heap.size x y → Below (w.heap.size + 2) w2 y) := fun x y h1 h2 => h1.trans (h2.mono (by have := h1.size; omega))
  have HXE := hide g0
  have HBA : Hid (Below (w.heap.size + 2) w2 w2) := Below.refl _ _
  have HCA := hide (unhide H15 _ (unhide HBW _ (unhide HBA)))
  clear h15 h16 h17 h18 y1 y2 hB2 hS2 e1 g0 g1 H15
  go_enter Tryz.func4, Tryz.ntmps4
  go_wp2_with (first | rw [hw2] | refine wpList_load_wanted (by rfl) 29 _ rfl w.heap.size rfl 29 _ (0, 0) _ (unhide HXE) Tryz.underlying29 rfl (by kernel_rfl) ?_)
  refine (unhide HCA).mono ?_
  rintro r zA ⟨uA, rfl, oA, bA⟩
  have HBB : Hid (Below (w.heap.size + 2) w2 zA) := unhide HTR _ _ (unhide HBA) bA
  have HSA := hide (sees_of_own oA).2
  obtain ⟨pA, qA, rfl⟩ := own_shape oA
  have HXE := hide (unhide HX _ (unhide HBB)).1
  have HCB := hide (unhide H16 _ (unhide HBW _ (unhide HBB)))
  clear oA bA HCA H16
  go_wp2_with (first | refine wpList_load_wanted (by rfl) 29 _ rfl w.heap.size rfl 29 _ (0, 0) _ (unhide HXE) Tryz.underlying29 rfl (by kernel_rfl) ?_)
  refine (unhide HCB).mono ?_
  rintro r zB ⟨uB, rfl, oB, bB⟩
  have HBC : Hid (Below (w.heap.size + 2) w2 zB) := unhide HTR _ _ (unhide HBB) bB
  have HSB := hide (sees_of_own oB).2
  have HSA := hide ((unhide HSA).below bB)
  obtain ⟨pB, qB, rfl⟩ := own_shape oB
  have HXM := hide (unhide HX _ (unhide HBC)).2
  have HCC := hide (unhide H17 _ (unhide HBW _ (unhide HBC)))
  clear oB bB HCB H17
  go_wp2_with (refine wpList_load_wanted (by rfl) 34 _ rfl (w.heap.size + 1) rfl 34 _ (0, 0) _ (unhide HXM) Tryz.underlying34 rfl (by kernel_rfl) ?_)
  refine (unhide HCC).mono ?_
  rintro r zC ⟨uC, rfl, oC, bC⟩
  have HBD : Hid (Below (w.heap.size + 2) w2 zC) := unhide HTR _ _ (unhide HBC) bC
  have HSC := hide (sees_of_own oC).2
  have HSA := hide ((unhide HSA).below bC)
  have HSB := hide ((unhide HSB).below bC)
  obtain ⟨pC, qC, rfl⟩ := own_shape oC
  have HXM := hide (unhide HX _ (unhide HBD)).2
  have HCD := hide (unhide H18 _ (unhide HBW _ (unhide HBD)))
  clear oC bC HCC H18
  go_wp2_with (refine wpList_load_wanted (by rfl) 34 _ rfl (w.heap.size + 1) rfl 34 _ (0, 0) _ (unhide HXM) Tryz.underlying34 rfl (by kernel_rfl) ?_)
  refine (unhide HCD).mono ?_
  rintro r zD ⟨uD, rfl, oD, bD⟩
  have HBE : Hid (Below (w.heap.size + 2) w2 zD) := unhide HTR _ _ (unhide HBD) bD
  have HSD := hide (sees_of_own oD).2
  have HSA := hide ((unhide HSA).below bD)
  have HSB := hide ((unhide HSB).below bD)
  have HSC := hide ((unhide HSC).below bD)
  obtain ⟨pD, qD, rfl⟩ := own_shape oD
  clear oD bD HCD
  obtain ⟨n1, hn1⟩ : ∃ n, B1.length = n := ⟨_, rfl⟩
  obtain ⟨n2, hn2⟩ : ∃ n, B2.length = n := ⟨_, rfl⟩
  rw [hn1] at HSA
  rw [hn1] at HSB
  rw [hn2] at HSC
  rw [hn2] at HSD
  rw [hn1, hn2]
  clear hn1 hn2
  go_wp2_with fail
  refine (begun_any _).mono ?_
  rintro r zE ⟨rfl, bE⟩
  have HQ1 := hide (equal_any _ _ B1 B1 zE ((unhide HSA).below bE) ((unhide HSB).below bE) (unhide HY1) (unhide HY1))
  have HQ2 := hide (equal_any _ _ B2 B2 zE ((unhide HSC).below bE) ((unhide HSD).below bE) (unhide HY2) (unhide HY2))
  simp only [decide_true] at HQ1
  simp only [decide_true] at HQ2
  have HF : Hid (Below w.heap.size w zE) := unhide HBW _ (unhide HTR _ _ (unhide HBE) bE)
  clear bE HSA HSB HSC HSD
  go_wp2_with fail
  refine (unhide HQ1).mono ?_
  rintro r _ ⟨rfl, rfl⟩
  go_wp2_with fail
  refine (unhide HQ2).mono ?_
  rintro r _ ⟨rfl, rfl⟩
  go_wp2_with fail
  go_ret
  exact ⟨rfl, unhide HF⟩
end Go.Proofs.YtggllgimlfchhaaGreat
