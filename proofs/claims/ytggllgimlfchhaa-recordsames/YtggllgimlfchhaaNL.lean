/- RecordSames: the walk. -/
import Derived.Test.YtggllgimlfchhaaNK
import Derived.Test.YtggllgimlfchhaaKC
import Derived.Test.YtggllgimlfchhaaZJ
import Derived.Deep.RegionHeld3
namespace Go.Proofs.Ytggllgimlfchhaa
open Go.RowKit
set_option maxRecDepth 100000

theorem run_loadE {ρ : Operand → Value} {o : Oper} {s : Operand} {w : World} {g T : Nat} {cs : Array Value} {fs : Array Field} {v : Value} (ho : o.op = .load T s) (hs : ρ s = .pointer (some ⟨g, 0, none⟩)) (hg : w.heap[g]? = some (.cells cs T))
    (hu : Try.prog.underlying T = some (.struct fs)) (hi : (Try.prog.info? T).map (·.size) = some cs.size) (hv : Value.agg cs = v) :
    Sem.run Try.prog (execOp ρ o) w = .ok (.value v) w := by
  subst hv
  have h := run_loadVar_row (P := Try.prog) w g T T cs (0, 0) _ hg hu rfl hi
  unfold execOp
  rw [ho]
  simp only [hs, Instr.loadAt]
  simp [Instr.sureAddr, h]

set_option maxHeartbeats 6400000 in
theorem recordSames_walk {w : World} {ak af an bk bf bn : Int} {aa ba : Option Addr} {aL ac bL bc : Nat} {m0 m1 m2 m3 m4 m5 m6 mek mef men mps mpi mpm n0 n1 n2 n3 n4 n5 n6 nek nef nen nps npi npm : Int} {mY nY : Bool} {mla mta mda nla nta nda : Option Addr} {mlL mlc mtL mtc mdL mdc nlL nlc ntL ntc ndL ndc : Nat}
    {al bl : List TxnD} (hal : al.length = aL) (hbl : bl.length = bL) (sA : SeesTs w (.slice aa aL ac) al) (sB : SeesTs w (.slice ba bL bc) bl) (oa : OkTs al) (ob : OkTs bl) (sa : ∀ t ∈ al, SmallT t) {D1 D2 : Bool}
    {OE OM : World → Array Value → Prop}
    (h10 : ∀ x, Below w.heap.size w x → Calls Try.prog 10 #[.agg #[.int .i64 ak, .int .i64 af, .int .i64 an, .slice aa aL ac], .agg #[.int .i64 bk, .int .i64 bf, .int .i64 bn, .slice ba bL bc]] x fun e y => e = .returned (.bool D1) ∧ Below x.heap.size x y) (h11 : ∀ x, Below w.heap.size w x → Calls Try.prog 11 #[.agg #[.int .i64 ak, .int .i64 af, .int .i64 an, .slice aa aL ac], .agg #[.int .i64 bk, .int .i64 bf, .int .i64 bn, .slice ba bL bc]] x fun e y => e = .returned (.bool D1) ∧ Below x.heap.size x y) (h12 : ∀ x, Below w.heap.size w x → Calls Try.prog 12 #[.agg #[.int .i64 m0, .int .i64 m1, .int .i64 m2, .int .i64 m3, .int .i64 m4, .int .i64 m5, .int .i64 m6, .bool mY, .slice mla mlL mlc, .int .i64 mek, .int .i64 mef, .int .i64 men, .slice mta mtL mtc, .int .i64 mps, .int .i64 mpi, .int .i64 mpm, .slice mda mdL mdc], .agg #[.int .i64 n0, .int .i64 n1, .int .i64 n2, .int .i64 n3, .int .i64 n4, .int .i64 n5, .int .i64 n6, .bool nY, .slice nla nlL nlc, .int .i64 nek, .int .i64 nef, .int .i64 nen, .slice nta ntL ntc, .int .i64 nps, .int .i64 npi, .int .i64 npm, .slice nda ndL ndc]] x fun e y => e = .returned (.bool D2) ∧ Below x.heap.size x y) (h13 : ∀ x, Below w.heap.size w x → Calls Try.prog 13 #[.agg #[.int .i64 m0, .int .i64 m1, .int .i64 m2, .int .i64 m3, .int .i64 m4, .int .i64 m5, .int .i64 m6, .bool mY, .slice mla mlL mlc, .int .i64 mek, .int .i64 mef, .int .i64 men, .slice mta mtL mtc, .int .i64 mps, .int .i64 mpi, .int .i64 mpm, .slice mda mdL mdc], .agg #[.int .i64 n0, .int .i64 n1, .int .i64 n2, .int .i64 n3, .int .i64 n4, .int .i64 n5, .int .i64 n6, .bool nY, .slice nla nlL nlc, .int .i64 nek, .int .i64 nef, .int .i64 nen, .slice nta ntL ntc, .int .i64 nps, .int .i64 npi, .int .i64 npm, .slice nda ndL ndc]] x fun e y => e = .returned (.bool D2) ∧ Below x.heap.size x y) (k10 : ∀ x, Below w.heap.size w x → Calls Try.prog 10 #[.agg #[.int .i64 ak, .int .i64 af, .int .i64 an, .slice aa aL ac], .agg #[.int .i64 ak, .int .i64 af, .int .i64 an, .slice aa aL ac]] x fun e y => e = .returned (.bool true) ∧ Below x.heap.size x y) (k12 : ∀ x, Below w.heap.size w x → Calls Try.prog 12 #[.agg #[.int .i64 m0, .int .i64 m1, .int .i64 m2, .int .i64 m3, .int .i64 m4, .int .i64 m5, .int .i64 m6, .bool mY, .slice mla mlL mlc, .int .i64 mek, .int .i64 mef, .int .i64 men, .slice mta mtL mtc, .int .i64 mps, .int .i64 mpi, .int .i64 mpm, .slice mda mdL mdc], .agg #[.int .i64 m0, .int .i64 m1, .int .i64 m2, .int .i64 m3, .int .i64 m4, .int .i64 m5, .int .i64 m6, .bool mY, .slice mla mlL mlc, .int .i64 mek, .int .i64 mef, .int .i64 men, .slice mta mtL mtc, .int .i64 mps, .int .i64 mpi, .int .i64 mpm, .slice mda mdL mdc]] x fun e y => e = .returned (.bool true) ∧ Below x.heap.size x y)
    (h14 : ∀ x, Below w.heap.size w x → Calls Try.prog 14 #[.agg #[.int .i64 ak, .int .i64 af, .int .i64 an, .slice aa aL ac]] x fun e y => ∃ cs', e = .returned (.agg cs') ∧ OE y cs' ∧ Below x.heap.size x y)
    (h15 : ∀ x, Below w.heap.size w x → Calls Try.prog 15 #[.agg #[.int .i64 m0, .int .i64 m1, .int .i64 m2, .int .i64 m3, .int .i64 m4, .int .i64 m5, .int .i64 m6, .bool mY, .slice mla mlL mlc, .int .i64 mek, .int .i64 mef, .int .i64 men, .slice mta mtL mtc, .int .i64 mps, .int .i64 mpi, .int .i64 mpm, .slice mda mdL mdc]] x fun e y => ∃ cs', e = .returned (.agg cs') ∧ OM y cs' ∧ Below x.heap.size x y)
    (k11 : ∀ cs' x, OE x cs' → Below w.heap.size w x → Calls Try.prog 11 #[.agg cs', .agg #[.int .i64 ak, .int .i64 af, .int .i64 an, .slice aa aL ac]] x fun e y => e = .returned (.bool true) ∧ Below x.heap.size x y)
    (k13 : ∀ cs' x, OM x cs' → Below w.heap.size w x → Calls Try.prog 13 #[.agg cs', .agg #[.int .i64 m0, .int .i64 m1, .int .i64 m2, .int .i64 m3, .int .i64 m4, .int .i64 m5, .int .i64 m6, .bool mY, .slice mla mlL mlc, .int .i64 mek, .int .i64 mef, .int .i64 men, .slice mta mtL mtc, .int .i64 mps, .int .i64 mpi, .int .i64 mpm, .slice mda mdL mdc]] x fun e y => e = .returned (.bool true) ∧ Below x.heap.size x y) :
    Calls Try.prog 3 #[.agg #[.int .i64 ak, .int .i64 af, .int .i64 an, .slice aa aL ac], .agg #[.int .i64 bk, .int .i64 bf, .int .i64 bn, .slice ba bL bc], .agg #[.int .i64 m0, .int .i64 m1, .int .i64 m2, .int .i64 m3, .int .i64 m4, .int .i64 m5, .int .i64 m6, .bool mY, .slice mla mlL mlc, .int .i64 mek, .int .i64 mef, .int .i64 men, .slice mta mtL mtc, .int .i64 mps, .int .i64 mpi, .int .i64 mpm, .slice mda mdL mdc], .agg #[.int .i64 n0, .int .i64 n1, .int .i64 n2, .int .i64 n3, .int .i64 n4, .int .i64 n5, .int .i64 n6, .bool nY, .slice nla nlL nlc, .int .i64 nek, .int .i64 nef, .int .i64 nen, .slice nta ntL ntc, .int .i64 nps, .int .i64 npi, .int .i64 npm, .slice nda ndL ndc]] w fun e w' => e = .returned (.bool true) ∧ Below w.heap.size w w' := by
  have HSA : Hid (∀ x, Below w.heap.size w x → SeesTs x (.slice aa aL ac) al) := fun x hb => sA.below hb
  have HSB : Hid (∀ x, Below w.heap.size w x → SeesTs x (.slice ba bL bc) bl) := fun x hb => sB.below hb
  have maa : aL ≤ 9223372036854775807 := by obtain ⟨_, _, _, _, _, _, h, _⟩ := sA; omega
  have mbb : bL ≤ 9223372036854775807 := by obtain ⟨_, _, _, _, _, _, h, _⟩ := sB; omega
  have HAL := hide hal
  have HBL := hide hbl
  have HOA := hide oa
  have HOB := hide ob
  have HSM := hide sa
  have H10 := hide h10
  have H11 := hide h11
  have H12 := hide h12
  have H13 := hide h13
  have K10 := hide k10
  have K12 := hide k12
  have H14 := hide h14
  have H15 := hide h15
  have K11 := hide k11
  have K13 := hide k13
  have hB4 : Below w.heap.size w ((((w.alloc (.cells #[.int .i64 ak, .int .i64 af, .int .i64 an, .slice aa aL ac] 24)).alloc (.cells #[.int .i64 bk, .int .i64 bf, .int .i64 bn, .slice ba bL bc] 24)).alloc (.cells #[.int .i64 m0, .int .i64 m1, .int .i64 m2, .int .i64 m3, .int .i64 m4, .int .i64 m5, .int .i64 m6, .bool mY, .slice mla mlL mlc, .int .i64 mek, .int .i64 mef, .int .i64 men, .slice mta mtL mtc, .int .i64 mps, .int .i64 mpi, .int .i64 mpm, .slice mda mdL mdc] 30)).alloc (.cells #[.int .i64 n0, .int .i64 n1, .int .i64 n2, .int .i64 n3, .int .i64 n4, .int .i64 n5, .int .i64 n6, .bool nY, .slice nla nlL nlc, .int .i64 nek, .int .i64 nef, .int .i64 nen, .slice nta ntL ntc, .int .i64 nps, .int .i64 npi, .int .i64 npm, .slice nda ndL ndc] 30)) := ((((Below.refl _ _).alloc (Nat.le_refl _) _).alloc (by simp) _).alloc (by simp; omega) _).alloc (by simp; omega) _
  have hS4 : ((((w.alloc (.cells #[.int .i64 ak, .int .i64 af, .int .i64 an, .slice aa aL ac] 24)).alloc (.cells #[.int .i64 bk, .int .i64 bf, .int .i64 bn, .slice ba bL bc] 24)).alloc (.cells #[.int .i64 m0, .int .i64 m1, .int .i64 m2, .int .i64 m3, .int .i64 m4, .int .i64 m5, .int .i64 m6, .bool mY, .slice mla mlL mlc, .int .i64 mek, .int .i64 mef, .int .i64 men, .slice mta mtL mtc, .int .i64 mps, .int .i64 mpi, .int .i64 mpm, .slice mda mdL mdc] 30)).alloc (.cells #[.int .i64 n0, .int .i64 n1, .int .i64 n2, .int .i64 n3, .int .i64 n4, .int .i64 n5, .int .i64 n6, .bool nY, .slice nla nlL nlc, .int .i64 nek, .int .i64 nef, .int .i64 nen, .slice nta ntL ntc, .int .i64 nps, .int .i64 npi, .int .i64 npm, .slice nda ndL ndc] 30)).heap.size = w.heap.size + 4 := by simp
  have e1 : (w.alloc (.cells #[.int .i64 ak, .int .i64 af, .int .i64 an, .slice aa aL ac] 24)).heap.size = w.heap.size + 1 := by simp
  have e2 : ((w.alloc (.cells #[.int .i64 ak, .int .i64 af, .int .i64 an, .slice aa aL ac] 24)).alloc (.cells #[.int .i64 bk, .int .i64 bf, .int .i64 bn, .slice ba bL bc] 24)).heap.size = w.heap.size + 1 + 1 := by simp
  have e3 : (((w.alloc (.cells #[.int .i64 ak, .int .i64 af, .int .i64 an, .slice aa aL ac] 24)).alloc (.cells #[.int .i64 bk, .int .i64 bf, .int .i64 bn, .slice ba bL bc] 24)).alloc (.cells #[.int .i64 m0, .int .i64 m1, .int .i64 m2, .int .i64 m3, .int .i64 m4, .int .i64 m5, .int .i64 m6, .bool mY, .slice mla mlL mlc, .int .i64 mek, .int .i64 mef, .int .i64 men, .slice mta mtL mtc, .int .i64 mps, .int .i64 mpi, .int .i64 mpm, .slice mda mdL mdc] 30)).heap.size = w.heap.size + 1 + 1 + 1 := by simp
  have g0 : ((((w.alloc (.cells #[.int .i64 ak, .int .i64 af, .int .i64 an, .slice aa aL ac] 24)).alloc (.cells #[.int .i64 bk, .int .i64 bf, .int .i64 bn, .slice ba bL bc] 24)).alloc (.cells #[.int .i64 m0, .int .i64 m1, .int .i64 m2, .int .i64 m3, .int .i64 m4, .int .i64 m5, .int .i64 m6, .bool mY, .slice mla mlL mlc, .int .i64 mek, .int .i64 mef, .int .i64 men, .slice mta mtL mtc, .int .i64 mps, .int .i64 mpi, .int .i64 mpm, .slice mda mdL mdc] 30)).alloc (.cells #[.int .i64 n0, .int .i64 n1, .int .i64 n2, .int .i64 n3, .int .i64 n4, .int .i64 n5, .int .i64 n6, .bool nY, .slice nla nlL nlc, .int .i64 nek, .int .i64 nef, .int .i64 nen, .slice nta ntL ntc, .int .i64 nps, .int .i64 npi, .int .i64 npm, .slice nda ndL ndc] 30)).heap[w.heap.size]? = some (.cells #[.int .i64 ak, .int .i64 af, .int .i64 an, .slice aa aL ac] 24) := (Below.heap_alloc _ _ _ (by omega)).trans ((Below.heap_alloc _ _ _ (by omega)).trans ((Below.heap_alloc _ _ _ (by omega)).trans (heap_alloc_new w _)))
  have g1 : ((((w.alloc (.cells #[.int .i64 ak, .int .i64 af, .int .i64 an, .slice aa aL ac] 24)).alloc (.cells #[.int .i64 bk, .int .i64 bf, .int .i64 bn, .slice ba bL bc] 24)).alloc (.cells #[.int .i64 m0, .int .i64 m1, .int .i64 m2, .int .i64 m3, .int .i64 m4, .int .i64 m5, .int .i64 m6, .bool mY, .slice mla mlL mlc, .int .i64 mek, .int .i64 mef, .int .i64 men, .slice mta mtL mtc, .int .i64 mps, .int .i64 mpi, .int .i64 mpm, .slice mda mdL mdc] 30)).alloc (.cells #[.int .i64 n0, .int .i64 n1, .int .i64 n2, .int .i64 n3, .int .i64 n4, .int .i64 n5, .int .i64 n6, .bool nY, .slice nla nlL nlc, .int .i64 nek, .int .i64 nef, .int .i64 nen, .slice nta ntL ntc, .int .i64 nps, .int .i64 npi, .int .i64 npm, .slice nda ndL ndc] 30)).heap[w.heap.size + 1]? = some (.cells #[.int .i64 bk, .int .i64 bf, .int .i64 bn, .slice ba bL bc] 24) := (Below.heap_alloc _ _ _ (by omega)).trans ((Below.heap_alloc _ _ _ (by omega)).trans (by have := heap_alloc_new (w.alloc (.cells #[.int .i64 ak, .int .i64 af, .int .i64 an, .slice aa aL ac] 24)) (.cells #[.int .i64 bk, .int .i64 bf, .int .i64 bn, .slice ba bL bc] 24); rwa [e1] at this))
  have g2 : ((((w.alloc (.cells #[.int .i64 ak, .int .i64 af, .int .i64 an, .slice aa aL ac] 24)).alloc (.cells #[.int .i64 bk, .int .i64 bf, .int .i64 bn, .slice ba bL bc] 24)).alloc (.cells #[.int .i64 m0, .int .i64 m1, .int .i64 m2, .int .i64 m3, .int .i64 m4, .int .i64 m5, .int .i64 m6, .bool mY, .slice mla mlL mlc, .int .i64 mek, .int .i64 mef, .int .i64 men, .slice mta mtL mtc, .int .i64 mps, .int .i64 mpi, .int .i64 mpm, .slice mda mdL mdc] 30)).alloc (.cells #[.int .i64 n0, .int .i64 n1, .int .i64 n2, .int .i64 n3, .int .i64 n4, .int .i64 n5, .int .i64 n6, .bool nY, .slice nla nlL nlc, .int .i64 nek, .int .i64 nef, .int .i64 nen, .slice nta ntL ntc, .int .i64 nps, .int .i64 npi, .int .i64 npm, .slice nda ndL ndc] 30)).heap[w.heap.size + 1 + 1]? = some (.cells #[.int .i64 m0, .int .i64 m1, .int .i64 m2, .int .i64 m3, .int .i64 m4, .int .i64 m5, .int .i64 m6, .bool mY, .slice mla mlL mlc, .int .i64 mek, .int .i64 mef, .int .i64 men, .slice mta mtL mtc, .int .i64 mps, .int .i64 mpi, .int .i64 mpm, .slice mda mdL mdc] 30) := (Below.heap_alloc _ _ _ (by omega)).trans (by have := heap_alloc_new ((w.alloc (.cells #[.int .i64 ak, .int .i64 af, .int .i64 an, .slice aa aL ac] 24)).alloc (.cells #[.int .i64 bk, .int .i64 bf, .int .i64 bn, .slice ba bL bc] 24)) (.cells #[.int .i64 m0, .int .i64 m1, .int .i64 m2, .int .i64 m3, .int .i64 m4, .int .i64 m5, .int .i64 m6, .bool mY, .slice mla mlL mlc, .int .i64 mek, .int .i64 mef, .int .i64 men, .slice mta mtL mtc, .int .i64 mps, .int .i64 mpi, .int .i64 mpm, .slice mda mdL mdc] 30); rwa [e2] at this)
  have g3 : ((((w.alloc (.cells #[.int .i64 ak, .int .i64 af, .int .i64 an, .slice aa aL ac] 24)).alloc (.cells #[.int .i64 bk, .int .i64 bf, .int .i64 bn, .slice ba bL bc] 24)).alloc (.cells #[.int .i64 m0, .int .i64 m1, .int .i64 m2, .int .i64 m3, .int .i64 m4, .int .i64 m5, .int .i64 m6, .bool mY, .slice mla mlL mlc, .int .i64 mek, .int .i64 mef, .int .i64 men, .slice mta mtL mtc, .int .i64 mps, .int .i64 mpi, .int .i64 mpm, .slice mda mdL mdc] 30)).alloc (.cells #[.int .i64 n0, .int .i64 n1, .int .i64 n2, .int .i64 n3, .int .i64 n4, .int .i64 n5, .int .i64 n6, .bool nY, .slice nla nlL nlc, .int .i64 nek, .int .i64 nef, .int .i64 nen, .slice nta ntL ntc, .int .i64 nps, .int .i64 npi, .int .i64 npm, .slice nda ndL ndc] 30)).heap[w.heap.size + 1 + 1 + 1]? = some (.cells #[.int .i64 n0, .int .i64 n1, .int .i64 n2, .int .i64 n3, .int .i64 n4, .int .i64 n5, .int .i64 n6, .bool nY, .slice nla nlL nlc, .int .i64 nek, .int .i64 nef, .int .i64 nen, .slice nta ntL ntc, .int .i64 nps, .int .i64 npi, .int .i64 npm, .slice nda ndL ndc] 30) := by have := heap_alloc_new (((w.alloc (.cells #[.int .i64 ak, .int .i64 af, .int .i64 an, .slice aa aL ac] 24)).alloc (.cells #[.int .i64 bk, .int .i64 bf, .int .i64 bn, .slice ba bL bc] 24)).alloc (.cells #[.int .i64 m0, .int .i64 m1, .int .i64 m2, .int .i64 m3, .int .i64 m4, .int .i64 m5, .int .i64 m6, .bool mY, .slice mla mlL mlc, .int .i64 mek, .int .i64 mef, .int .i64 men, .slice mta mtL mtc, .int .i64 mps, .int .i64 mpi, .int .i64 mpm, .slice mda mdL mdc] 30)) (.cells #[.int .i64 n0, .int .i64 n1, .int .i64 n2, .int .i64 n3, .int .i64 n4, .int .i64 n5, .int .i64 n6, .bool nY, .slice nla nlL nlc, .int .i64 nek, .int .i64 nef, .int .i64 nen, .slice nta ntL ntc, .int .i64 nps, .int .i64 npi, .int .i64 npm, .slice nda ndL ndc] 30); rwa [e3] at this
  obtain ⟨w4, hw4⟩ : ∃ y, ((((w.alloc (.cells #[.int .i64 ak, .int .i64 af, .int .i64 an, .slice aa aL ac] 24)).alloc (.cells #[.int .i64 bk, .int .i64 bf, .int .i64 bn, .slice ba bL bc] 24)).alloc (.cells #[.int .i64 m0, .int .i64 m1, .int .i64 m2, .int .i64 m3, .int .i64 m4, .int .i64 m5, .int .i64 m6, .bool mY, .slice mla mlL mlc, .int .i64 mek, .int .i64 mef, .int .i64 men, .slice mta mtL mtc, .int .i64 mps, .int .i64 mpi, .int .i64 mpm, .slice mda mdL mdc] 30)).alloc (.cells #[.int .i64 n0, .int .i64 n1, .int .i64 n2, .int .i64 n3, .int .i64 n4, .int .i64 n5, .int .i64 n6, .bool nY, .slice nla nlL nlc, .int .i64 nek, .int .i64 nef, .int .i64 nen, .slice nta ntL ntc, .int .i64 nps, .int .i64 npi, .int .i64 npm, .slice nda ndL ndc] 30)) = y := ⟨_, rfl⟩
  rw [hw4] at hB4 hS4 g0 g1 g2 g3
  have HX : Hid (∀ x, Below (w.heap.size + 4) w4 x → x.heap[w.heap.size]? = some (.cells #[.int .i64 ak, .int .i64 af, .int .i64 an, .slice aa aL ac] 24) ∧ x.heap[w.heap.size + 1]? = some (.cells #[.int .i64 bk, .int .i64 bf, .int .i64 bn, .slice ba bL bc] 24) ∧ x.heap[w.heap.size + 1 + 1]? = some (.cells #[.int .i64 m0, .int .i64 m1, .int .i64 m2, .int .i64 m3, .int .i64 m4, .int .i64 m5, .int .i64 m6, .bool mY, .slice mla mlL mlc, .int .i64 mek, .int .i64 mef, .int .i64 men, .slice mta mtL mtc, .int .i64 mps, .int .i64 mpi, .int .i64 mpm, .slice mda mdL mdc] 30) ∧ x.heap[w.heap.size + 1 + 1 + 1]? = some (.cells #[.int .i64 n0, .int .i64 n1, .int .i64 n2, .int .i64 n3, .int .i64 n4, .int .i64 n5, .int .i64 n6, .bool nY, .slice nla nlL nlc, .int .i64 nek, .int .i64 nef, .int .i64 nen, .slice nta ntL ntc, .int .i64 nps, .int .i64 npi, .int .i64 npm, .slice nda ndL ndc] 30)) := fun x hb => ⟨(hb.block _ (by omega)).trans g0, (hb.block _ (by omega)).trans g1, (hb.block _ (by omega)).trans g2, (hb.block _ (by omega)).trans g3⟩
  have HBW : Hid (∀ x, Below (w.heap.size + 4) w4 x → Below w.heap.size w x) := fun x hb => hB4.trans (hb.mono (by omega))
  have HTR : Hid (∀ x y, Below (w.heap.size + 4) w4 x → Below x.heap.size x y → Below (w.heap.size + 4) w4 y) := fun x y h1 h2 => h1.trans (h2.mono (by have := h1.size; omega))
  have hr4 : Below (w.heap.size + 4) w4 w4 := Below.refl _ _
  have HR4 := hide hr4
  have a3 : w4.cell? ⟨w.heap.size, 3, none⟩ = some (.slice aa aL ac) := cell_of_heap g0
  clear sA sB hal hbl oa ob sa h10 h11 h12 h13 k10 k12 h14 h15 k11 k13 hB4 hS4 e1 e2 e3 g0 g1 g2 g3 hr4
  go_enter Try.func3, Try.ntmps3
  go_wp2_with (rw [hw4])
  go_loopw [14] (fun c wr => ∃ t : Nat, t ≤ aL ∧ c = .int .i64 t ∧ Below (w.heap.size + 4) w4 wr) (fun c _ => aL - (intOf c).toNat)
  case atStart => exact ⟨0, by omega, rfl, unhide HR4⟩
  case round =>
    clear a3
    obtain ⟨t, ht, rfl, hb⟩ := hrel
    have HB0 := hide hb
    have b3 : wr.cell? ⟨w.heap.size + 1, 3, none⟩ = some (.slice ba bL bc) := cell_of_heap (unhide HX wr hb).2.1
    by_cases hlt : t < aL
    · clear hb
      go_wp2
      go_loopw [20] (fun c wr => ∃ t : Nat, t ≤ bL ∧ c = .int .i64 t ∧ Below (w.heap.size + 4) w4 wr) (fun c _ => bL - (intOf c).toNat)
      case atStart => exact ⟨0, by omega, rfl, unhide HB0⟩
      case round =>
        clear HB0 b3
        obtain ⟨k, hk, rfl, hb⟩ := hrel
        have HB0 := hide hb
        have a3 : wr.cell? ⟨w.heap.size, 3, none⟩ = some (.slice aa aL ac) := cell_of_heap (unhide HX wr hb).1
        have b3 : wr.cell? ⟨w.heap.size + 1, 3, none⟩ = some (.slice ba bL bc) := cell_of_heap (unhide HX wr hb).2.1
        obtain ⟨ao', ca', ga, oa, hv, _, _, ha', h1⟩ := unhide HSA wr (unhide HBW wr hb)
        simp only [Value.slice.injEq] at hv
        obtain ⟨rfl, hj1, rfl⟩ := hv
        obtain rfl := ha' (by omega)
        have hlt1 : t < al.length := by omega
        clear ha' hj1
        obtain ⟨cvk, avk, rvk, wvk, kh0, kh1, kh2, kh3, kh4, kh5, khs⟩ := h1 t hlt1
        obtain ⟨k1, kc1, k2, kc2, k3, kc3, k4, kc4, rfl, rfl, rfl, rfl⟩ := khs.shape
        obtain ⟨kd, ke⟩ : ∃ d, al.getD t dT = d := ⟨_, rfl⟩
        rw [ke] at kh0 kh1 kh2 kh3 kh4 kh5 khs
        obtain ⟨ks, kes⟩ : ∃ n, kd.ses = n := ⟨_, rfl⟩
        obtain ⟨kq, keq⟩ : ∃ n, kd.req = n := ⟨_, rfl⟩
        obtain ⟨kn1, ke1⟩ : ∃ n, kd.code.length = n := ⟨_, rfl⟩
        obtain ⟨kn2, ke2⟩ : ∃ n, kd.args.length = n := ⟨_, rfl⟩
        obtain ⟨kn3, ke3⟩ : ∃ n, kd.reads.length = n := ⟨_, rfl⟩
        obtain ⟨kn4, ke4⟩ : ∃ n, kd.writes.length = n := ⟨_, rfl⟩
        rw [kes, keq, ke1, ke2, ke3, ke4] at khs
        rw [kes] at kh0
        rw [keq] at kh1
        rw [ke1] at kh2
        rw [ke2] at kh3
        rw [ke3] at kh4
        rw [ke4] at kh5
        have kE := hide ke
        have kHS := hide khs
        clear khs ke kes keq ke1 ke2 ke3 ke4
        have hok := (unhide HOA).at hlt1
        have hsm : SmallT (al.getD t dT) := unhide HSM _ (by have := List.getElem_mem hlt1; have e : al.getD t dT = al[t] := (by simp [List.getD, hlt1]); rw [e]; exact this)
        rw [unhide kE] at hok hsm
        have HOK := hide hok
        have HSMk := hide hsm
        clear h1 hok hsm hlt1
        by_cases hkt : k < bL
        · obtain ⟨ao', ca', gb, ob, hv, _, _, hb', h2⟩ := unhide HSB wr (unhide HBW wr hb)
          simp only [Value.slice.injEq] at hv
          obtain ⟨rfl, hj1, rfl⟩ := hv
          obtain rfl := hb' (by omega)
          have hlt2 : k < bl.length := by omega
          clear hb' hj1
          obtain ⟨cvm_, avm_, rvm_, wvm_, m_h0, m_h1, m_h2, m_h3, m_h4, m_h5, m_hs⟩ := h2 k hlt2
          obtain ⟨m_1, m_c1, m_2, m_c2, m_3, m_c3, m_4, m_c4, rfl, rfl, rfl, rfl⟩ := m_hs.shape
          obtain ⟨m_d, m_e⟩ : ∃ d, bl.getD k dT = d := ⟨_, rfl⟩
          rw [m_e] at m_h0 m_h1 m_h2 m_h3 m_h4 m_h5 m_hs
          obtain ⟨m_s, m_es⟩ : ∃ n, m_d.ses = n := ⟨_, rfl⟩
          obtain ⟨m_q, m_eq⟩ : ∃ n, m_d.req = n := ⟨_, rfl⟩
          obtain ⟨m_n1, m_e1⟩ : ∃ n, m_d.code.length = n := ⟨_, rfl⟩
          obtain ⟨m_n2, m_e2⟩ : ∃ n, m_d.args.length = n := ⟨_, rfl⟩
          obtain ⟨m_n3, m_e3⟩ : ∃ n, m_d.reads.length = n := ⟨_, rfl⟩
          obtain ⟨m_n4, m_e4⟩ : ∃ n, m_d.writes.length = n := ⟨_, rfl⟩
          rw [m_es, m_eq, m_e1, m_e2, m_e3, m_e4] at m_hs
          rw [m_es] at m_h0
          rw [m_eq] at m_h1
          rw [m_e1] at m_h2
          rw [m_e2] at m_h3
          rw [m_e3] at m_h4
          rw [m_e4] at m_h5
          have m_E := hide m_e
          have m_HS := hide m_hs
          clear m_hs m_e m_es m_eq m_e1 m_e2 m_e3 m_e4
          have hok2 := (unhide HOB).at hlt2
          rw [unhide m_E] at hok2
          have HOK2 := hide hok2
          obtain ⟨DD, hDD⟩ : ∃ D, decide (kd = m_d) = D := ⟨_, rfl⟩
          have H6 : Hid (∀ y, Below wr.heap.size wr y → Calls Try.prog 6 #[.agg #[.int .i64 ks, .int .i64 kq, .slice k1 kn1 kc1, .slice k2 kn2 kc2, .slice k3 kn3 kc3, .slice k4 kn4 kc4], .agg #[.int .i64 m_s, .int .i64 m_q, .slice m_1 m_n1 m_c1, .slice m_2 m_n2 m_c2, .slice m_3 m_n3 m_c3, .slice m_4 m_n4 m_c4]] y fun e z => e = .returned (.bool DD) ∧ Below y.heap.size y z) := fun y hb => by rw [← hDD]; exact sameTxn_any _ _ kd m_d y ((unhide kHS).below hb) ((unhide m_HS).below hb) (unhide HOK).1 hok2.1 (unhide HOK).2
          have H7 : Hid (∀ y, Below wr.heap.size wr y → Calls Try.prog 7 #[.agg #[.int .i64 ks, .int .i64 kq, .slice k1 kn1 kc1, .slice k2 kn2 kc2, .slice k3 kn3 kc3, .slice k4 kn4 kc4], .agg #[.int .i64 m_s, .int .i64 m_q, .slice m_1 m_n1 m_c1, .slice m_2 m_n2 m_c2, .slice m_3 m_n3 m_c3, .slice m_4 m_n4 m_c4]] y fun e z => e = .returned (.bool DD) ∧ Below y.heap.size y z) := fun y hb => by rw [← hDD]; exact refSameTxn_any _ _ kd m_d y ((unhide kHS).below hb) ((unhide m_HS).below hb) (unhide HOK).1 hok2.1 (unhide HOK).2
          clear hDD hok2 h2 hlt2 hb
          have HCX : Hid (∀ y, Below wr.heap.size wr y → y.cell? ⟨w.heap.size, 3, none⟩ = some (.slice (some ⟨ga, oa, none⟩) aL ac) ∧ y.cell? ⟨w.heap.size + 1, 3, none⟩ = some (.slice (some ⟨gb, ob, none⟩) bL bc) ∧ y.cell? ⟨ga, oa + t * 6, none⟩ = some (.int .i64 ks) ∧ y.cell? ⟨ga, oa + t * 6 + 1, none⟩ = some (.int .i64 kq) ∧ y.cell? ⟨ga, oa + t * 6 + 2, none⟩ = some (.slice k1 kn1 kc1) ∧ y.cell? ⟨ga, oa + t * 6 + 3, none⟩ = some (.slice k2 kn2 kc2) ∧ y.cell? ⟨ga, oa + t * 6 + 4, none⟩ = some (.slice k3 kn3 kc3) ∧ y.cell? ⟨ga, oa + t * 6 + 5, none⟩ = some (.slice k4 kn4 kc4) ∧ y.cell? ⟨gb, ob + k * 6, none⟩ = some (.int .i64 m_s) ∧ y.cell? ⟨gb, ob + k * 6 + 1, none⟩ = some (.int .i64 m_q) ∧ y.cell? ⟨gb, ob + k * 6 + 2, none⟩ = some (.slice m_1 m_n1 m_c1) ∧ y.cell? ⟨gb, ob + k * 6 + 3, none⟩ = some (.slice m_2 m_n2 m_c2) ∧ y.cell? ⟨gb, ob + k * 6 + 4, none⟩ = some (.slice m_3 m_n3 m_c3) ∧ y.cell? ⟨gb, ob + k * 6 + 5, none⟩ = some (.slice m_4 m_n4 m_c4)) := fun y hb => ⟨(hb.cell (World.block_lt_of_cell? wr _ a3)).trans a3, (hb.cell (World.block_lt_of_cell? wr _ b3)).trans b3, (hb.cell (World.block_lt_of_cell? wr _ kh0)).trans kh0, (hb.cell (World.block_lt_of_cell? wr _ kh1)).trans kh1, (hb.cell (World.block_lt_of_cell? wr _ kh2)).trans kh2, (hb.cell (World.block_lt_of_cell? wr _ kh3)).trans kh3, (hb.cell (World.block_lt_of_cell? wr _ kh4)).trans kh4, (hb.cell (World.block_lt_of_cell? wr _ kh5)).trans kh5, (hb.cell (World.block_lt_of_cell? wr _ m_h0)).trans m_h0, (hb.cell (World.block_lt_of_cell? wr _ m_h1)).trans m_h1, (hb.cell (World.block_lt_of_cell? wr _ m_h2)).trans m_h2, (hb.cell (World.block_lt_of_cell? wr _ m_h3)).trans m_h3, (hb.cell (World.block_lt_of_cell? wr _ m_h4)).trans m_h4, (hb.cell (World.block_lt_of_cell? wr _ m_h5)).trans m_h5⟩
          go_wp2_with fail
          refine wp_region_held_drew (S := fun x => x.cell? ⟨w.heap.size, 3, none⟩ = some (.slice (some ⟨ga, oa, none⟩) aL ac) ∧ x.cell? ⟨w.heap.size + 1, 3, none⟩ = some (.slice (some ⟨gb, ob, none⟩) bL bc) ∧ x.cell? ⟨ga, oa + t * 6, none⟩ = some (.int .i64 ks) ∧ x.cell? ⟨ga, oa + t * 6 + 1, none⟩ = some (.int .i64 kq) ∧ x.cell? ⟨ga, oa + t * 6 + 2, none⟩ = some (.slice k1 kn1 kc1) ∧ x.cell? ⟨ga, oa + t * 6 + 3, none⟩ = some (.slice k2 kn2 kc2) ∧ x.cell? ⟨ga, oa + t * 6 + 4, none⟩ = some (.slice k3 kn3 kc3) ∧ x.cell? ⟨ga, oa + t * 6 + 5, none⟩ = some (.slice k4 kn4 kc4) ∧ x.cell? ⟨gb, ob + k * 6, none⟩ = some (.int .i64 m_s) ∧ x.cell? ⟨gb, ob + k * 6 + 1, none⟩ = some (.int .i64 m_q) ∧ x.cell? ⟨gb, ob + k * 6 + 2, none⟩ = some (.slice m_1 m_n1 m_c1) ∧ x.cell? ⟨gb, ob + k * 6 + 3, none⟩ = some (.slice m_2 m_n2 m_c2) ∧ x.cell? ⟨gb, ob + k * 6 + 4, none⟩ = some (.slice m_3 m_n3 m_c3) ∧ x.cell? ⟨gb, ob + k * 6 + 5, none⟩ = some (.slice m_4 m_n4 m_c4)) (by kernel_rfl) (unhide HCX _ ((Below.refl _ _).drew)) (fun hHeld => ?_)
          refine wpAnyH_take (i := 0) (v := ?v1x0) rfl (by kernel_rfl) (by kernel_rfl) (by kernel_rfl) (fun _ _ _ h => h) (Or.inl ⟨by rfl, ?hy1x0⟩) (by assumption) ?rest1x0
          case hy1x0 => intro w hSw; obtain ⟨g0, g1, g2, g3, g4, g5, g6, g7, g8, g9, g10, g11, g12, g13⟩ := hSw; go_simp <;> with_reducible rfl
          simp only [Act.put, List.getElem_toArray, List.getElem_cons_zero, List.setIfInBounds_toArray, List.set_cons_zero, List.set_cons_succ]
          refine wpAnyH_take (i := 1) (v := (.slice (some ⟨ga, oa, none⟩) aL ac)) rfl (by kernel_rfl) (by kernel_rfl) (by kernel_rfl) (fun _ _ _ h => h) (Or.inl ⟨by rfl, ?hy2x1⟩) (by assumption) ?rest2x1
          case hy2x1 => intro w hSw; obtain ⟨g0, g1, g2, g3, g4, g5, g6, g7, g8, g9, g10, g11, g12, g13⟩ := hSw; go_simp <;> with_reducible rfl
          simp only [Act.put, List.getElem_toArray, List.getElem_cons_zero, List.getElem_cons_succ, List.setIfInBounds_toArray, List.set_cons_zero, List.set_cons_succ]
          refine wpAnyH_take (i := 2) (v := ?v3x2) rfl (by kernel_rfl) (by kernel_rfl) (by kernel_rfl) (fun _ _ _ h => h) (Or.inl ⟨by rfl, ?hy3x2⟩) (by assumption) ?rest3x2
          case hy3x2 => intro w hSw; obtain ⟨g0, g1, g2, g3, g4, g5, g6, g7, g8, g9, g10, g11, g12, g13⟩ := hSw; go_simp <;> with_reducible rfl
          simp only [Act.put, List.getElem_toArray, List.getElem_cons_zero, List.getElem_cons_succ, List.setIfInBounds_toArray, List.set_cons_zero, List.set_cons_succ]
          refine wpAnyH_take (i := 3) (v := ?v4x3) rfl (by kernel_rfl) (by kernel_rfl) (by kernel_rfl) (fun _ _ _ h => h) (Or.inl ⟨by rfl, ?hy4x3⟩) (by assumption) ?rest4x3
          case hy4x3 => intro w hSw; obtain ⟨g0, g1, g2, g3, g4, g5, g6, g7, g8, g9, g10, g11, g12, g13⟩ := hSw; go_simp <;> with_reducible rfl
          simp only [Act.put, List.getElem_toArray, List.getElem_cons_zero, List.getElem_cons_succ, List.setIfInBounds_toArray, List.set_cons_zero, List.set_cons_succ]
          refine wpAnyH_take (i := 4) (v := (.agg #[.int .i64 ks, .int .i64 kq, .slice k1 kn1 kc1, .slice k2 kn2 kc2, .slice k3 kn3 kc3, .slice k4 kn4 kc4])) rfl (by kernel_rfl) (by kernel_rfl) (by kernel_rfl) (fun _ _ _ h => h) (Or.inl ⟨by rfl, ?hy5x4⟩) (by assumption) ?rest5x4
          case hy5x4 => intro w hSw; obtain ⟨g0, g1, g2, g3, g4, g5, g6, g7, g8, g9, g10, g11, g12, g13⟩ := hSw; go_simp <;> with_reducible rfl
          simp only [Act.put, List.getElem_toArray, List.getElem_cons_zero, List.getElem_cons_succ, List.setIfInBounds_toArray, List.set_cons_zero, List.set_cons_succ]
          refine wpAnyH_take (i := 5) (v := ?v6x5) rfl (by kernel_rfl) (by kernel_rfl) (by kernel_rfl) (fun _ _ _ h => h) (Or.inl ⟨by rfl, ?hy6x5⟩) (by assumption) ?rest6x5
          case hy6x5 => intro w hSw; obtain ⟨g0, g1, g2, g3, g4, g5, g6, g7, g8, g9, g10, g11, g12, g13⟩ := hSw; go_simp <;> with_reducible rfl
          simp only [Act.put, List.getElem_toArray, List.getElem_cons_zero, List.getElem_cons_succ, List.setIfInBounds_toArray, List.set_cons_zero, List.set_cons_succ]
          refine wpAnyH_take (i := 6) (v := (.slice (some ⟨gb, ob, none⟩) bL bc)) rfl (by kernel_rfl) (by kernel_rfl) (by kernel_rfl) (fun _ _ _ h => h) (Or.inl ⟨by rfl, ?hy7x6⟩) (by assumption) ?rest7x6
          case hy7x6 => intro w hSw; obtain ⟨g0, g1, g2, g3, g4, g5, g6, g7, g8, g9, g10, g11, g12, g13⟩ := hSw; go_simp <;> with_reducible rfl
          simp only [Act.put, List.getElem_toArray, List.getElem_cons_zero, List.getElem_cons_succ, List.setIfInBounds_toArray, List.set_cons_zero, List.set_cons_succ]
          refine wpAnyH_take (i := 7) (v := ?v8x7) rfl (by kernel_rfl) (by kernel_rfl) (by kernel_rfl) (fun _ _ _ h => h) (Or.inl ⟨by rfl, ?hy8x7⟩) (by assumption) ?rest8x7
          case hy8x7 => intro w hSw; obtain ⟨g0, g1, g2, g3, g4, g5, g6, g7, g8, g9, g10, g11, g12, g13⟩ := hSw; go_simp <;> with_reducible rfl
          simp only [Act.put, List.getElem_toArray, List.getElem_cons_zero, List.getElem_cons_succ, List.setIfInBounds_toArray, List.set_cons_zero, List.set_cons_succ]
          refine wpAnyH_take (i := 8) (v := ?v9x8) rfl (by kernel_rfl) (by kernel_rfl) (by kernel_rfl) (fun _ _ _ h => h) (Or.inl ⟨by rfl, ?hy9x8⟩) (by assumption) ?rest9x8
          case hy9x8 => intro w hSw; obtain ⟨g0, g1, g2, g3, g4, g5, g6, g7, g8, g9, g10, g11, g12, g13⟩ := hSw; go_simp <;> with_reducible rfl
          simp only [Act.put, List.getElem_toArray, List.getElem_cons_zero, List.getElem_cons_succ, List.setIfInBounds_toArray, List.set_cons_zero, List.set_cons_succ]
          refine wpAnyH_take (i := 9) (v := (.agg #[.int .i64 m_s, .int .i64 m_q, .slice m_1 m_n1 m_c1, .slice m_2 m_n2 m_c2, .slice m_3 m_n3 m_c3, .slice m_4 m_n4 m_c4])) rfl (by kernel_rfl) (by kernel_rfl) (by kernel_rfl) (fun _ _ _ h => h) (Or.inl ⟨by rfl, ?hy10x9⟩) (by assumption) ?rest10x9
          case hy10x9 => intro w hSw; obtain ⟨g0, g1, g2, g3, g4, g5, g6, g7, g8, g9, g10, g11, g12, g13⟩ := hSw; go_simp <;> with_reducible rfl
          simp only [Act.put, List.getElem_toArray, List.getElem_cons_zero, List.getElem_cons_succ, List.setIfInBounds_toArray, List.set_cons_zero, List.set_cons_succ]
          refine wpAnyH_take (i := 11) (v := ?v11x11) rfl (by kernel_rfl) (by kernel_rfl) (by kernel_rfl) (fun _ _ _ h => h) (Or.inl ⟨by rfl, ?hy11x11⟩) (by assumption) ?rest11x11
          case hy11x11 => intro w hSw; obtain ⟨g0, g1, g2, g3, g4, g5, g6, g7, g8, g9, g10, g11, g12, g13⟩ := hSw; go_simp <;> with_reducible rfl
          simp only [Act.put, List.getElem_toArray, List.getElem_cons_zero, List.getElem_cons_succ, List.setIfInBounds_toArray, List.set_cons_zero, List.set_cons_succ]
          refine wpAnyH_take (i := 12) (v := (.slice (some ⟨ga, oa, none⟩) aL ac)) rfl (by kernel_rfl) (by kernel_rfl) (by kernel_rfl) (fun _ _ _ h => h) (Or.inl ⟨by rfl, ?hy12x12⟩) (by assumption) ?rest12x12
          case hy12x12 => intro w hSw; obtain ⟨g0, g1, g2, g3, g4, g5, g6, g7, g8, g9, g10, g11, g12, g13⟩ := hSw; go_simp <;> with_reducible rfl
          simp only [Act.put, List.getElem_toArray, List.getElem_cons_zero, List.getElem_cons_succ, List.setIfInBounds_toArray, List.set_cons_zero, List.set_cons_succ]
          refine wpAnyH_take (i := 13) (v := ?v13x13) rfl (by kernel_rfl) (by kernel_rfl) (by kernel_rfl) (fun _ _ _ h => h) (Or.inl ⟨by rfl, ?hy13x13⟩) (by assumption) ?rest13x13
          case hy13x13 => intro w hSw; obtain ⟨g0, g1, g2, g3, g4, g5, g6, g7, g8, g9, g10, g11, g12, g13⟩ := hSw; go_simp <;> with_reducible rfl
          simp only [Act.put, List.getElem_toArray, List.getElem_cons_zero, List.getElem_cons_succ, List.setIfInBounds_toArray, List.set_cons_zero, List.set_cons_succ]
          refine wpAnyH_take (i := 14) (v := ?v14x14) rfl (by kernel_rfl) (by kernel_rfl) (by kernel_rfl) (fun _ _ _ h => h) (Or.inl ⟨by rfl, ?hy14x14⟩) (by assumption) ?rest14x14
          case hy14x14 => intro w hSw; obtain ⟨g0, g1, g2, g3, g4, g5, g6, g7, g8, g9, g10, g11, g12, g13⟩ := hSw; go_simp <;> with_reducible rfl
          simp only [Act.put, List.getElem_toArray, List.getElem_cons_zero, List.getElem_cons_succ, List.setIfInBounds_toArray, List.set_cons_zero, List.set_cons_succ]
          refine wpAnyH_take (i := 15) (v := (.agg #[.int .i64 ks, .int .i64 kq, .slice k1 kn1 kc1, .slice k2 kn2 kc2, .slice k3 kn3 kc3, .slice k4 kn4 kc4])) rfl (by kernel_rfl) (by kernel_rfl) (by kernel_rfl) (fun _ _ _ h => h) (Or.inl ⟨by rfl, ?hy15x15⟩) (by assumption) ?rest15x15
          case hy15x15 => intro w hSw; obtain ⟨g0, g1, g2, g3, g4, g5, g6, g7, g8, g9, g10, g11, g12, g13⟩ := hSw; go_simp <;> with_reducible rfl
          simp only [Act.put, List.getElem_toArray, List.getElem_cons_zero, List.getElem_cons_succ, List.setIfInBounds_toArray, List.set_cons_zero, List.set_cons_succ]
          refine wpAnyH_take (i := 16) (v := ?v16x16) rfl (by kernel_rfl) (by kernel_rfl) (by kernel_rfl) (fun _ _ _ h => h) (Or.inl ⟨by rfl, ?hy16x16⟩) (by assumption) ?rest16x16
          case hy16x16 => intro w hSw; obtain ⟨g0, g1, g2, g3, g4, g5, g6, g7, g8, g9, g10, g11, g12, g13⟩ := hSw; go_simp <;> with_reducible rfl
          simp only [Act.put, List.getElem_toArray, List.getElem_cons_zero, List.getElem_cons_succ, List.setIfInBounds_toArray, List.set_cons_zero, List.set_cons_succ]
          refine wpAnyH_take (i := 17) (v := (.slice (some ⟨gb, ob, none⟩) bL bc)) rfl (by kernel_rfl) (by kernel_rfl) (by kernel_rfl) (fun _ _ _ h => h) (Or.inl ⟨by rfl, ?hy17x17⟩) (by assumption) ?rest17x17
          case hy17x17 => intro w hSw; obtain ⟨g0, g1, g2, g3, g4, g5, g6, g7, g8, g9, g10, g11, g12, g13⟩ := hSw; go_simp <;> with_reducible rfl
          simp only [Act.put, List.getElem_toArray, List.getElem_cons_zero, List.getElem_cons_succ, List.setIfInBounds_toArray, List.set_cons_zero, List.set_cons_succ]
          refine wpAnyH_take (i := 18) (v := ?v18x18) rfl (by kernel_rfl) (by kernel_rfl) (by kernel_rfl) (fun _ _ _ h => h) (Or.inl ⟨by rfl, ?hy18x18⟩) (by assumption) ?rest18x18
          case hy18x18 => intro w hSw; obtain ⟨g0, g1, g2, g3, g4, g5, g6, g7, g8, g9, g10, g11, g12, g13⟩ := hSw; go_simp <;> with_reducible rfl
          simp only [Act.put, List.getElem_toArray, List.getElem_cons_zero, List.getElem_cons_succ, List.setIfInBounds_toArray, List.set_cons_zero, List.set_cons_succ]
          refine wpAnyH_take (i := 19) (v := ?v19x19) rfl (by kernel_rfl) (by kernel_rfl) (by kernel_rfl) (fun _ _ _ h => h) (Or.inl ⟨by rfl, ?hy19x19⟩) (by assumption) ?rest19x19
          case hy19x19 => intro w hSw; obtain ⟨g0, g1, g2, g3, g4, g5, g6, g7, g8, g9, g10, g11, g12, g13⟩ := hSw; go_simp <;> with_reducible rfl
          simp only [Act.put, List.getElem_toArray, List.getElem_cons_zero, List.getElem_cons_succ, List.setIfInBounds_toArray, List.set_cons_zero, List.set_cons_succ]
          refine wpAnyH_take (i := 20) (v := (.agg #[.int .i64 m_s, .int .i64 m_q, .slice m_1 m_n1 m_c1, .slice m_2 m_n2 m_c2, .slice m_3 m_n3 m_c3, .slice m_4 m_n4 m_c4])) rfl (by kernel_rfl) (by kernel_rfl) (by kernel_rfl) (fun _ _ _ h => h) (Or.inl ⟨by rfl, ?hy20x20⟩) (by assumption) ?rest20x20
          case hy20x20 => intro w hSw; obtain ⟨g0, g1, g2, g3, g4, g5, g6, g7, g8, g9, g10, g11, g12, g13⟩ := hSw; go_simp <;> with_reducible rfl
          simp only [Act.put, List.getElem_toArray, List.getElem_cons_zero, List.getElem_cons_succ, List.setIfInBounds_toArray, List.set_cons_zero, List.set_cons_succ]
          refine wpAnyH_ready (rs := [10]) (by kernel_rfl) (by simp) ?_
          refine AllReadyH.cons rfl (fun K hK => ?_) AllReadyH.nil
          go_simp
          refine (unhide H6 _ ((Below.refl _ _).drew)).mono ?_
          rintro e w2 ⟨rfl, hb2⟩
          refine hK _ _ (unhide HCX _ ((Below.refl _ _).drew.trans hb2)) ?_
          clear hK hHeld
          intro hHeld
          refine wpAnyH_ready (rs := [21]) (by kernel_rfl) (by simp) ?_
          refine AllReadyH.cons rfl (fun K hK => ?_) AllReadyH.nil
          go_simp
          refine (unhide H7 _ ((Below.refl _ _).drew.trans hb2)).mono ?_
          rintro e w3 ⟨rfl, hb3⟩
          refine hK _ _ (unhide HCX _ (((Below.refl _ _).drew.trans hb2).trans (hb3.mono hb2.size))) ?_
          clear hK hHeld
          intro hHeld
          refine wpAnyH_take (i := 22) (v := (.bool false)) rfl (by kernel_rfl) (by kernel_rfl) (by kernel_rfl) (fun _ _ _ h => h) (Or.inl ⟨by rfl, ?hy21x22⟩) (by assumption) ?rest21x22
          case hy21x22 => intro w hSw; obtain ⟨g0, g1, g2, g3, g4, g5, g6, g7, g8, g9, g10, g11, g12, g13⟩ := hSw; go_simp <;> with_reducible rfl
          simp only [Act.put, List.getElem_toArray, List.getElem_cons_zero, List.getElem_cons_succ, List.setIfInBounds_toArray, List.set_cons_zero, List.set_cons_succ]
          refine wpAnyH_done (by kernel_rfl) ?_ _
          have HB9 : Hid (Below (w.heap.size + 4) w4 w3) := unhide HTR _ _ (unhide HB0) (((Below.refl _ _).drew.trans hb2).trans (hb3.mono hb2.size))
          clear hb2 hb3 hHeld HCX H6 H7
          go_wp2
          go_roundw
          case rel => exact ⟨k + 1, by omega, by go_num, unhide HB9⟩
          case measure => simp [intOf]; omega
        · obtain rfl : k = bL := by omega
          have H8 : Hid (∀ y, Below wr.heap.size wr y → Calls Try.prog 8 #[.agg #[.int .i64 ks, .int .i64 kq, .slice k1 kn1 kc1, .slice k2 kn2 kc2, .slice k3 kn3 kc3, .slice k4 kn4 kc4]] y fun e z => ∃ cs', e = .returned (.agg cs') ∧ OwnT y.heap.size z cs' kd ∧ Below y.heap.size y z) := fun y hb => cloneTxn_any _ kd y ((unhide kHS).below hb) (unhide HSMk).1 (unhide HSMk).2.1 (unhide HSMk).2.2.1 (unhide HSMk).2.2.2
          have H7 : Hid (∀ cs' y bs, OwnT bs y cs' kd → Below wr.heap.size wr y → Calls Try.prog 7 #[.agg cs', .agg #[.int .i64 ks, .int .i64 kq, .slice k1 kn1 kc1, .slice k2 kn2 kc2, .slice k3 kn3 kc3, .slice k4 kn4 kc4]] y fun e z => e = .returned (.bool true) ∧ Below y.heap.size y z) := fun cs' y bs ho hb => by have := refSameTxn_any _ _ kd kd y (ho.seesN (unhide HSMk)) ((unhide kHS).below hb) (unhide HOK).1 (unhide HOK).1 (unhide HOK).2; rwa [decide_eq_true rfl] at this
          clear hb
          have HCX : Hid (∀ y, Below wr.heap.size wr y → y.cell? ⟨w.heap.size, 3, none⟩ = some (.slice (some ⟨ga, oa, none⟩) aL ac) ∧ y.cell? ⟨ga, oa + t * 6, none⟩ = some (.int .i64 ks) ∧ y.cell? ⟨ga, oa + t * 6 + 1, none⟩ = some (.int .i64 kq) ∧ y.cell? ⟨ga, oa + t * 6 + 2, none⟩ = some (.slice k1 kn1 kc1) ∧ y.cell? ⟨ga, oa + t * 6 + 3, none⟩ = some (.slice k2 kn2 kc2) ∧ y.cell? ⟨ga, oa + t * 6 + 4, none⟩ = some (.slice k3 kn3 kc3) ∧ y.cell? ⟨ga, oa + t * 6 + 5, none⟩ = some (.slice k4 kn4 kc4)) := fun y hb => ⟨(hb.cell (World.block_lt_of_cell? wr _ a3)).trans a3, (hb.cell (World.block_lt_of_cell? wr _ kh0)).trans kh0, (hb.cell (World.block_lt_of_cell? wr _ kh1)).trans kh1, (hb.cell (World.block_lt_of_cell? wr _ kh2)).trans kh2, (hb.cell (World.block_lt_of_cell? wr _ kh3)).trans kh3, (hb.cell (World.block_lt_of_cell? wr _ kh4)).trans kh4, (hb.cell (World.block_lt_of_cell? wr _ kh5)).trans kh5⟩
          go_wp2_with fail
          refine wp_region_held_drew (S := fun x => x.cell? ⟨w.heap.size, 3, none⟩ = some (.slice (some ⟨ga, oa, none⟩) aL ac) ∧ x.cell? ⟨ga, oa + t * 6, none⟩ = some (.int .i64 ks) ∧ x.cell? ⟨ga, oa + t * 6 + 1, none⟩ = some (.int .i64 kq) ∧ x.cell? ⟨ga, oa + t * 6 + 2, none⟩ = some (.slice k1 kn1 kc1) ∧ x.cell? ⟨ga, oa + t * 6 + 3, none⟩ = some (.slice k2 kn2 kc2) ∧ x.cell? ⟨ga, oa + t * 6 + 4, none⟩ = some (.slice k3 kn3 kc3) ∧ x.cell? ⟨ga, oa + t * 6 + 5, none⟩ = some (.slice k4 kn4 kc4)) (by kernel_rfl) (unhide HCX _ ((Below.refl _ _).drew)) (fun hHeld => ?_)
          refine wpAnyH_take (i := 0) (v := ?v22x0) rfl (by kernel_rfl) (by kernel_rfl) (by kernel_rfl) (fun _ _ _ h => h) (Or.inl ⟨by rfl, ?hy22x0⟩) (by assumption) ?rest22x0
          case hy22x0 => intro w hSw; obtain ⟨g0, g1, g2, g3, g4, g5, g6⟩ := hSw; go_simp <;> with_reducible rfl
          simp only [Act.put, List.getElem_toArray, List.getElem_cons_zero, List.setIfInBounds_toArray, List.set_cons_zero, List.set_cons_succ]
          refine wpAnyH_take (i := 1) (v := (.slice (some ⟨ga, oa, none⟩) aL ac)) rfl (by kernel_rfl) (by kernel_rfl) (by kernel_rfl) (fun _ _ _ h => h) (Or.inl ⟨by rfl, ?hy23x1⟩) (by assumption) ?rest23x1
          case hy23x1 => intro w hSw; obtain ⟨g0, g1, g2, g3, g4, g5, g6⟩ := hSw; go_simp <;> with_reducible rfl
          simp only [Act.put, List.getElem_toArray, List.getElem_cons_zero, List.getElem_cons_succ, List.setIfInBounds_toArray, List.set_cons_zero, List.set_cons_succ]
          refine wpAnyH_take (i := 2) (v := ?v24x2) rfl (by kernel_rfl) (by kernel_rfl) (by kernel_rfl) (fun _ _ _ h => h) (Or.inl ⟨by rfl, ?hy24x2⟩) (by assumption) ?rest24x2
          case hy24x2 => intro w hSw; obtain ⟨g0, g1, g2, g3, g4, g5, g6⟩ := hSw; go_simp <;> with_reducible rfl
          simp only [Act.put, List.getElem_toArray, List.getElem_cons_zero, List.getElem_cons_succ, List.setIfInBounds_toArray, List.set_cons_zero, List.set_cons_succ]
          refine wpAnyH_take (i := 3) (v := ?v25x3) rfl (by kernel_rfl) (by kernel_rfl) (by kernel_rfl) (fun _ _ _ h => h) (Or.inl ⟨by rfl, ?hy25x3⟩) (by assumption) ?rest25x3
          case hy25x3 => intro w hSw; obtain ⟨g0, g1, g2, g3, g4, g5, g6⟩ := hSw; go_simp <;> with_reducible rfl
          simp only [Act.put, List.getElem_toArray, List.getElem_cons_zero, List.getElem_cons_succ, List.setIfInBounds_toArray, List.set_cons_zero, List.set_cons_succ]
          refine wpAnyH_take (i := 4) (v := (.agg #[.int .i64 ks, .int .i64 kq, .slice k1 kn1 kc1, .slice k2 kn2 kc2, .slice k3 kn3 kc3, .slice k4 kn4 kc4])) rfl (by kernel_rfl) (by kernel_rfl) (by kernel_rfl) (fun _ _ _ h => h) (Or.inl ⟨by rfl, ?hy26x4⟩) (by assumption) ?rest26x4
          case hy26x4 => intro w hSw; obtain ⟨g0, g1, g2, g3, g4, g5, g6⟩ := hSw; go_simp <;> with_reducible rfl
          simp only [Act.put, List.getElem_toArray, List.getElem_cons_zero, List.getElem_cons_succ, List.setIfInBounds_toArray, List.set_cons_zero, List.set_cons_succ]
          refine wpAnyH_take (i := 6) (v := ?v27x6) rfl (by kernel_rfl) (by kernel_rfl) (by kernel_rfl) (fun _ _ _ h => h) (Or.inl ⟨by rfl, ?hy27x6⟩) (by assumption) ?rest27x6
          case hy27x6 => intro w hSw; obtain ⟨g0, g1, g2, g3, g4, g5, g6⟩ := hSw; go_simp <;> with_reducible rfl
          simp only [Act.put, List.getElem_toArray, List.getElem_cons_zero, List.getElem_cons_succ, List.setIfInBounds_toArray, List.set_cons_zero, List.set_cons_succ]
          refine wpAnyH_take (i := 7) (v := (.slice (some ⟨ga, oa, none⟩) aL ac)) rfl (by kernel_rfl) (by kernel_rfl) (by kernel_rfl) (fun _ _ _ h => h) (Or.inl ⟨by rfl, ?hy28x7⟩) (by assumption) ?rest28x7
          case hy28x7 => intro w hSw; obtain ⟨g0, g1, g2, g3, g4, g5, g6⟩ := hSw; go_simp <;> with_reducible rfl
          simp only [Act.put, List.getElem_toArray, List.getElem_cons_zero, List.getElem_cons_succ, List.setIfInBounds_toArray, List.set_cons_zero, List.set_cons_succ]
          refine wpAnyH_take (i := 8) (v := ?v29x8) rfl (by kernel_rfl) (by kernel_rfl) (by kernel_rfl) (fun _ _ _ h => h) (Or.inl ⟨by rfl, ?hy29x8⟩) (by assumption) ?rest29x8
          case hy29x8 => intro w hSw; obtain ⟨g0, g1, g2, g3, g4, g5, g6⟩ := hSw; go_simp <;> with_reducible rfl
          simp only [Act.put, List.getElem_toArray, List.getElem_cons_zero, List.getElem_cons_succ, List.setIfInBounds_toArray, List.set_cons_zero, List.set_cons_succ]
          refine wpAnyH_take (i := 9) (v := ?v30x9) rfl (by kernel_rfl) (by kernel_rfl) (by kernel_rfl) (fun _ _ _ h => h) (Or.inl ⟨by rfl, ?hy30x9⟩) (by assumption) ?rest30x9
          case hy30x9 => intro w hSw; obtain ⟨g0, g1, g2, g3, g4, g5, g6⟩ := hSw; go_simp <;> with_reducible rfl
          simp only [Act.put, List.getElem_toArray, List.getElem_cons_zero, List.getElem_cons_succ, List.setIfInBounds_toArray, List.set_cons_zero, List.set_cons_succ]
          refine wpAnyH_take (i := 10) (v := (.agg #[.int .i64 ks, .int .i64 kq, .slice k1 kn1 kc1, .slice k2 kn2 kc2, .slice k3 kn3 kc3, .slice k4 kn4 kc4])) rfl (by kernel_rfl) (by kernel_rfl) (by kernel_rfl) (fun _ _ _ h => h) (Or.inl ⟨by rfl, ?hy31x10⟩) (by assumption) ?rest31x10
          case hy31x10 => intro w hSw; obtain ⟨g0, g1, g2, g3, g4, g5, g6⟩ := hSw; go_simp <;> with_reducible rfl
          simp only [Act.put, List.getElem_toArray, List.getElem_cons_zero, List.getElem_cons_succ, List.setIfInBounds_toArray, List.set_cons_zero, List.set_cons_succ]
          refine wpAnyH_ready (rs := [5]) (by kernel_rfl) (by simp) ?_
          refine AllReadyH.cons rfl (fun K hK => ?_) AllReadyH.nil
          go_simp
          refine (unhide H8 _ ((Below.refl _ _).drew)).mono ?_
          rintro e w2 ⟨cs', rfl, ho2, hb2⟩
          refine hK _ _ (unhide HCX _ ((Below.refl _ _).drew.trans hb2)) ?_
          clear hK hHeld
          intro hHeld
          refine wpAnyH_ready (rs := [11]) (by kernel_rfl) (by simp) ?_
          refine AllReadyH.cons rfl (fun K hK => ?_) AllReadyH.nil
          go_simp
          refine (unhide H7 cs' _ _ ho2 ((Below.refl _ _).drew.trans hb2)).mono ?_
          rintro e w3 ⟨rfl, hb3⟩
          refine hK _ _ (unhide HCX _ (((Below.refl _ _).drew.trans hb2).trans (hb3.mono hb2.size))) ?_
          clear hK hHeld
          intro hHeld
          refine wpAnyH_take (i := 12) (v := (.bool false)) rfl (by kernel_rfl) (by kernel_rfl) (by kernel_rfl) (fun _ _ _ h => h) (Or.inl ⟨by rfl, ?hy32x12⟩) (by assumption) ?rest32x12
          case hy32x12 => intro w hSw; obtain ⟨g0, g1, g2, g3, g4, g5, g6⟩ := hSw; go_simp <;> with_reducible rfl
          simp only [Act.put, List.getElem_toArray, List.getElem_cons_zero, List.getElem_cons_succ, List.setIfInBounds_toArray, List.set_cons_zero, List.set_cons_succ]
          refine wpAnyH_done (by kernel_rfl) ?_ _
          have HB9 : Hid (Below (w.heap.size + 4) w4 w3) := unhide HTR _ _ (unhide HB0) (((Below.refl _ _).drew.trans hb2).trans (hb3.mono hb2.size))
          clear hb2 hb3 ho2 hHeld HCX H8 H7
          go_wp2
          go_roundw
          case rel => exact ⟨t + 1, by omega, by go_num, unhide HB9⟩
          case measure => simp [intOf]; omega
    · obtain rfl : aL = t := by omega
      clear hb b3
      go_wp2_with fail
      obtain ⟨va, hva⟩ : ∃ v, Value.agg #[.int .i64 ak, .int .i64 af, .int .i64 an, .slice aa aL ac] = v := ⟨_, rfl⟩
      obtain ⟨vb, hvb⟩ : ∃ v, Value.agg #[.int .i64 bk, .int .i64 bf, .int .i64 bn, .slice ba bL bc] = v := ⟨_, rfl⟩
      obtain ⟨vm, hvm⟩ : ∃ v, Value.agg #[.int .i64 m0, .int .i64 m1, .int .i64 m2, .int .i64 m3, .int .i64 m4, .int .i64 m5, .int .i64 m6, .bool mY, .slice mla mlL mlc, .int .i64 mek, .int .i64 mef, .int .i64 men, .slice mta mtL mtc, .int .i64 mps, .int .i64 mpi, .int .i64 mpm, .slice mda mdL mdc] = v := ⟨_, rfl⟩
      obtain ⟨vn, hvn⟩ : ∃ v, Value.agg #[.int .i64 n0, .int .i64 n1, .int .i64 n2, .int .i64 n3, .int .i64 n4, .int .i64 n5, .int .i64 n6, .bool nY, .slice nla nlL nlc, .int .i64 nek, .int .i64 nef, .int .i64 nen, .slice nta ntL ntc, .int .i64 nps, .int .i64 npi, .int .i64 npm, .slice nda ndL ndc] = v := ⟨_, rfl⟩
      rw [hva, hvb, hvm, hvn]
      rw [hva, hvb] at H10
      rw [hva, hvb] at H11
      rw [hvm, hvn] at H12
      rw [hvm, hvn] at H13
      rw [hva] at K10
      rw [hvm] at K12
      rw [hva] at H14
      rw [hvm] at H15
      rw [hva] at K11
      rw [hvm] at K13
      have HVa := hide hva
      have HVb := hide hvb
      have HVm := hide hvm
      have HVn := hide hvn
      clear hva hvb hvm hvn
      have HB1 : Hid (Below (w.heap.size + 4) w4 wr.drew) := (unhide HB0).drew
      refine wp_region_held_drew (S := fun x => Below (w.heap.size + 4) w4 x) (by kernel_rfl) (unhide HB1) (fun hHeld => ?_)
      refine wpAnyH_ready (rs := [0]) (by as_aux_lemma => kernel_rfl) (by simp) ?_
      refine AllReadyH.cons rfl (fun K hK => ?_) AllReadyH.nil
      go_simp
      refine (begun_any _).mono ?_
      rintro e y1 ⟨rfl, hb1⟩
      refine hK _ _ (unhide HTR _ _ (unhide HB1) hb1) ?_
      clear hK hHeld
      have HB2 : Hid (Below (w.heap.size + 4) w4 y1) := unhide HTR _ _ (unhide HB1) hb1
      clear hb1 HB1
      intro hHeld
      refine wpAnyH_take (i := 1) (v := (.bool true)) rfl (by as_aux_lemma => kernel_rfl) (by as_aux_lemma => kernel_rfl) (by as_aux_lemma => kernel_rfl) (fun _ _ _ h => h) (Or.inl ⟨by rfl, ?hy33x1⟩) (by assumption) ?rest33x1
      case hy33x1 => intro w hSw; go_simp <;> with_reducible rfl
      simp only [Act.put, List.getElem_toArray, List.getElem_cons_zero, List.getElem_cons_succ, List.setIfInBounds_toArray, List.set_cons_zero, List.set_cons_succ]
      refine wpAnyH_take (i := 2) (v := va) rfl (by as_aux_lemma => kernel_rfl) (by as_aux_lemma => kernel_rfl) (by as_aux_lemma => kernel_rfl) (fun _ _ _ h => h) (Or.inl ⟨by rfl, ?hy34x2⟩) (by assumption) ?rest34x2
      case hy34x2 => intro w hSw; exact run_loadE rfl rfl (unhide HX _ hSw).1 Try.underlying24 (by kernel_rfl) (unhide HVa)
      simp only [Act.put, List.getElem_toArray, List.getElem_cons_zero, List.getElem_cons_succ, List.setIfInBounds_toArray, List.set_cons_zero, List.set_cons_succ]
      refine wpAnyH_take (i := 3) (v := vb) rfl (by as_aux_lemma => kernel_rfl) (by as_aux_lemma => kernel_rfl) (by as_aux_lemma => kernel_rfl) (fun _ _ _ h => h) (Or.inl ⟨by rfl, ?hy35x3⟩) (by assumption) ?rest35x3
      case hy35x3 => intro w hSw; exact run_loadE rfl rfl (unhide HX _ hSw).2.1 Try.underlying24 (by kernel_rfl) (unhide HVb)
      simp only [Act.put, List.getElem_toArray, List.getElem_cons_zero, List.getElem_cons_succ, List.setIfInBounds_toArray, List.set_cons_zero, List.set_cons_succ]
      refine wpAnyH_take (i := 5) (v := va) rfl (by as_aux_lemma => kernel_rfl) (by as_aux_lemma => kernel_rfl) (by as_aux_lemma => kernel_rfl) (fun _ _ _ h => h) (Or.inl ⟨by rfl, ?hy36x5⟩) (by assumption) ?rest36x5
      case hy36x5 => intro w hSw; exact run_loadE rfl rfl (unhide HX _ hSw).1 Try.underlying24 (by kernel_rfl) (unhide HVa)
      simp only [Act.put, List.getElem_toArray, List.getElem_cons_zero, List.getElem_cons_succ, List.setIfInBounds_toArray, List.set_cons_zero, List.set_cons_succ]
      refine wpAnyH_take (i := 6) (v := vb) rfl (by as_aux_lemma => kernel_rfl) (by as_aux_lemma => kernel_rfl) (by as_aux_lemma => kernel_rfl) (fun _ _ _ h => h) (Or.inl ⟨by rfl, ?hy37x6⟩) (by assumption) ?rest37x6
      case hy37x6 => intro w hSw; exact run_loadE rfl rfl (unhide HX _ hSw).2.1 Try.underlying24 (by kernel_rfl) (unhide HVb)
      simp only [Act.put, List.getElem_toArray, List.getElem_cons_zero, List.getElem_cons_succ, List.setIfInBounds_toArray, List.set_cons_zero, List.set_cons_succ]
      refine wpAnyH_ready (rs := [4]) (by as_aux_lemma => kernel_rfl) (by simp) ?_
      refine AllReadyH.cons rfl (fun K hK => ?_) AllReadyH.nil
      go_simp
      refine (unhide H10 _ (unhide HBW _ (unhide HB2))).mono ?_
      rintro e y2 ⟨rfl, hb2⟩
      refine hK _ _ (unhide HTR _ _ (unhide HB2) hb2) ?_
      clear hK hHeld
      have HB3 : Hid (Below (w.heap.size + 4) w4 y2) := unhide HTR _ _ (unhide HB2) hb2
      clear hb2 HB2
      intro hHeld
      refine wpAnyH_ready (rs := [7]) (by as_aux_lemma => kernel_rfl) (by simp) ?_
      refine AllReadyH.cons rfl (fun K hK => ?_) AllReadyH.nil
      go_simp
      refine (unhide H11 _ (unhide HBW _ (unhide HB3))).mono ?_
      rintro e y3 ⟨rfl, hb3⟩
      refine hK _ _ (unhide HTR _ _ (unhide HB3) hb3) ?_
      clear hK hHeld
      have HB4 : Hid (Below (w.heap.size + 4) w4 y3) := unhide HTR _ _ (unhide HB3) hb3
      clear hb3 HB3
      intro hHeld
      refine wpAnyH_take (i := 8) (v := (.bool true)) rfl (by as_aux_lemma => kernel_rfl) (by as_aux_lemma => kernel_rfl) (by as_aux_lemma => kernel_rfl) (fun _ _ _ h => h) (Or.inl ⟨by rfl, ?hy38x8⟩) (by assumption) ?rest38x8
      case hy38x8 => intro w hSw; go_simp <;> with_reducible rfl
      simp only [Act.put, List.getElem_toArray, List.getElem_cons_zero, List.getElem_cons_succ, List.setIfInBounds_toArray, List.set_cons_zero, List.set_cons_succ]
      refine wpAnyH_take (i := 9) (v := (.bool true)) rfl (by as_aux_lemma => kernel_rfl) (by as_aux_lemma => kernel_rfl) (by as_aux_lemma => kernel_rfl) (fun _ _ _ h => h) (Or.inl ⟨by rfl, ?hy39x9⟩) (by assumption) ?rest39x9
      case hy39x9 => intro w hSw; go_simp <;> with_reducible rfl
      simp only [Act.put, List.getElem_toArray, List.getElem_cons_zero, List.getElem_cons_succ, List.setIfInBounds_toArray, List.set_cons_zero, List.set_cons_succ]
      refine wpAnyH_take (i := 10) (v := (.bool true)) rfl (by as_aux_lemma => kernel_rfl) (by as_aux_lemma => kernel_rfl) (by as_aux_lemma => kernel_rfl) (fun _ _ _ h => h) (Or.inl ⟨by rfl, ?hy40x10⟩) (by assumption) ?rest40x10
      case hy40x10 => intro w hSw; go_simp <;> with_reducible rfl
      simp only [Act.put, List.getElem_toArray, List.getElem_cons_zero, List.getElem_cons_succ, List.setIfInBounds_toArray, List.set_cons_zero, List.set_cons_succ]
      refine wpAnyH_take (i := 11) (v := vm) rfl (by as_aux_lemma => kernel_rfl) (by as_aux_lemma => kernel_rfl) (by as_aux_lemma => kernel_rfl) (fun _ _ _ h => h) (Or.inl ⟨by rfl, ?hy41x11⟩) (by assumption) ?rest41x11
      case hy41x11 => intro w hSw; exact run_loadE rfl rfl (unhide HX _ hSw).2.2.1 Try.underlying30 (by kernel_rfl) (unhide HVm)
      simp only [Act.put, List.getElem_toArray, List.getElem_cons_zero, List.getElem_cons_succ, List.setIfInBounds_toArray, List.set_cons_zero, List.set_cons_succ]
      refine wpAnyH_take (i := 12) (v := vn) rfl (by as_aux_lemma => kernel_rfl) (by as_aux_lemma => kernel_rfl) (by as_aux_lemma => kernel_rfl) (fun _ _ _ h => h) (Or.inl ⟨by rfl, ?hy42x12⟩) (by assumption) ?rest42x12
      case hy42x12 => intro w hSw; exact run_loadE rfl rfl (unhide HX _ hSw).2.2.2 Try.underlying30 (by kernel_rfl) (unhide HVn)
      simp only [Act.put, List.getElem_toArray, List.getElem_cons_zero, List.getElem_cons_succ, List.setIfInBounds_toArray, List.set_cons_zero, List.set_cons_succ]
      refine wpAnyH_take (i := 14) (v := vm) rfl (by as_aux_lemma => kernel_rfl) (by as_aux_lemma => kernel_rfl) (by as_aux_lemma => kernel_rfl) (fun _ _ _ h => h) (Or.inl ⟨by rfl, ?hy43x14⟩) (by assumption) ?rest43x14
      case hy43x14 => intro w hSw; exact run_loadE rfl rfl (unhide HX _ hSw).2.2.1 Try.underlying30 (by kernel_rfl) (unhide HVm)
      simp only [Act.put, List.getElem_toArray, List.getElem_cons_zero, List.getElem_cons_succ, List.setIfInBounds_toArray, List.set_cons_zero, List.set_cons_succ]
      refine wpAnyH_take (i := 15) (v := vn) rfl (by as_aux_lemma => kernel_rfl) (by as_aux_lemma => kernel_rfl) (by as_aux_lemma => kernel_rfl) (fun _ _ _ h => h) (Or.inl ⟨by rfl, ?hy44x15⟩) (by assumption) ?rest44x15
      case hy44x15 => intro w hSw; exact run_loadE rfl rfl (unhide HX _ hSw).2.2.2 Try.underlying30 (by kernel_rfl) (unhide HVn)
      simp only [Act.put, List.getElem_toArray, List.getElem_cons_zero, List.getElem_cons_succ, List.setIfInBounds_toArray, List.set_cons_zero, List.set_cons_succ]
      refine wpAnyH_ready (rs := [13]) (by as_aux_lemma => kernel_rfl) (by simp) ?_
      refine AllReadyH.cons rfl (fun K hK => ?_) AllReadyH.nil
      go_simp
      refine (unhide H12 _ (unhide HBW _ (unhide HB4))).mono ?_
      rintro e y4 ⟨rfl, hb4⟩
      refine hK _ _ (unhide HTR _ _ (unhide HB4) hb4) ?_
      clear hK hHeld
      have HB5 : Hid (Below (w.heap.size + 4) w4 y4) := unhide HTR _ _ (unhide HB4) hb4
      clear hb4 HB4
      intro hHeld
      refine wpAnyH_ready (rs := [16]) (by as_aux_lemma => kernel_rfl) (by simp) ?_
      refine AllReadyH.cons rfl (fun K hK => ?_) AllReadyH.nil
      go_simp
      refine (unhide H13 _ (unhide HBW _ (unhide HB5))).mono ?_
      rintro e y5 ⟨rfl, hb5⟩
      refine hK _ _ (unhide HTR _ _ (unhide HB5) hb5) ?_
      clear hK hHeld
      have HB6 : Hid (Below (w.heap.size + 4) w4 y5) := unhide HTR _ _ (unhide HB5) hb5
      clear hb5 HB5
      intro hHeld
      refine wpAnyH_take (i := 17) (v := (.bool true)) rfl (by as_aux_lemma => kernel_rfl) (by as_aux_lemma => kernel_rfl) (by as_aux_lemma => kernel_rfl) (fun _ _ _ h => h) (Or.inl ⟨by rfl, ?hy45x17⟩) (by assumption) ?rest45x17
      case hy45x17 => intro w hSw; go_simp <;> with_reducible rfl
      simp only [Act.put, List.getElem_toArray, List.getElem_cons_zero, List.getElem_cons_succ, List.setIfInBounds_toArray, List.set_cons_zero, List.set_cons_succ]
      refine wpAnyH_take (i := 18) (v := (.bool true)) rfl (by as_aux_lemma => kernel_rfl) (by as_aux_lemma => kernel_rfl) (by as_aux_lemma => kernel_rfl) (fun _ _ _ h => h) (Or.inl ⟨by rfl, ?hy46x18⟩) (by assumption) ?rest46x18
      case hy46x18 => intro w hSw; go_simp <;> with_reducible rfl
      simp only [Act.put, List.getElem_toArray, List.getElem_cons_zero, List.getElem_cons_succ, List.setIfInBounds_toArray, List.set_cons_zero, List.set_cons_succ]
      refine wpAnyH_take (i := 19) (v := (.bool true)) rfl (by as_aux_lemma => kernel_rfl) (by as_aux_lemma => kernel_rfl) (by as_aux_lemma => kernel_rfl) (fun _ _ _ h => h) (Or.inl ⟨by rfl, ?hy47x19⟩) (by assumption) ?rest47x19
      case hy47x19 => intro w hSw; go_simp <;> with_reducible rfl
      simp only [Act.put, List.getElem_toArray, List.getElem_cons_zero, List.getElem_cons_succ, List.setIfInBounds_toArray, List.set_cons_zero, List.set_cons_succ]
      refine wpAnyH_take (i := 20) (v := va) rfl (by as_aux_lemma => kernel_rfl) (by as_aux_lemma => kernel_rfl) (by as_aux_lemma => kernel_rfl) (fun _ _ _ h => h) (Or.inl ⟨by rfl, ?hy48x20⟩) (by assumption) ?rest48x20
      case hy48x20 => intro w hSw; exact run_loadE rfl rfl (unhide HX _ hSw).1 Try.underlying24 (by kernel_rfl) (unhide HVa)
      simp only [Act.put, List.getElem_toArray, List.getElem_cons_zero, List.getElem_cons_succ, List.setIfInBounds_toArray, List.set_cons_zero, List.set_cons_succ]
      refine wpAnyH_take (i := 21) (v := va) rfl (by as_aux_lemma => kernel_rfl) (by as_aux_lemma => kernel_rfl) (by as_aux_lemma => kernel_rfl) (fun _ _ _ h => h) (Or.inl ⟨by rfl, ?hy49x21⟩) (by assumption) ?rest49x21
      case hy49x21 => intro w hSw; exact run_loadE rfl rfl (unhide HX _ hSw).1 Try.underlying24 (by kernel_rfl) (unhide HVa)
      simp only [Act.put, List.getElem_toArray, List.getElem_cons_zero, List.getElem_cons_succ, List.setIfInBounds_toArray, List.set_cons_zero, List.set_cons_succ]
      refine wpAnyH_ready (rs := [22]) (by as_aux_lemma => kernel_rfl) (by simp) ?_
      refine AllReadyH.cons rfl (fun K hK => ?_) AllReadyH.nil
      go_simp
      refine (unhide K10 _ (unhide HBW _ (unhide HB6))).mono ?_
      rintro e y6 ⟨rfl, hb6⟩
      refine hK _ _ (unhide HTR _ _ (unhide HB6) hb6) ?_
      clear hK hHeld
      have HB7 : Hid (Below (w.heap.size + 4) w4 y6) := unhide HTR _ _ (unhide HB6) hb6
      clear hb6 HB6
      intro hHeld
      refine wpAnyH_take (i := 23) (v := (.bool true)) rfl (by as_aux_lemma => kernel_rfl) (by as_aux_lemma => kernel_rfl) (by as_aux_lemma => kernel_rfl) (fun _ _ _ h => h) (Or.inl ⟨by rfl, ?hy50x23⟩) (by assumption) ?rest50x23
      case hy50x23 => intro w hSw; go_simp <;> with_reducible rfl
      simp only [Act.put, List.getElem_toArray, List.getElem_cons_zero, List.getElem_cons_succ, List.setIfInBounds_toArray, List.set_cons_zero, List.set_cons_succ]
      refine wpAnyH_take (i := 24) (v := (.bool true)) rfl (by as_aux_lemma => kernel_rfl) (by as_aux_lemma => kernel_rfl) (by as_aux_lemma => kernel_rfl) (fun _ _ _ h => h) (Or.inl ⟨by rfl, ?hy51x24⟩) (by assumption) ?rest51x24
      case hy51x24 => intro w hSw; go_simp <;> with_reducible rfl
      simp only [Act.put, List.getElem_toArray, List.getElem_cons_zero, List.getElem_cons_succ, List.setIfInBounds_toArray, List.set_cons_zero, List.set_cons_succ]
      refine wpAnyH_take (i := 25) (v := vm) rfl (by as_aux_lemma => kernel_rfl) (by as_aux_lemma => kernel_rfl) (by as_aux_lemma => kernel_rfl) (fun _ _ _ h => h) (Or.inl ⟨by rfl, ?hy52x25⟩) (by assumption) ?rest52x25
      case hy52x25 => intro w hSw; exact run_loadE rfl rfl (unhide HX _ hSw).2.2.1 Try.underlying30 (by kernel_rfl) (unhide HVm)
      simp only [Act.put, List.getElem_toArray, List.getElem_cons_zero, List.getElem_cons_succ, List.setIfInBounds_toArray, List.set_cons_zero, List.set_cons_succ]
      refine wpAnyH_take (i := 26) (v := vm) rfl (by as_aux_lemma => kernel_rfl) (by as_aux_lemma => kernel_rfl) (by as_aux_lemma => kernel_rfl) (fun _ _ _ h => h) (Or.inl ⟨by rfl, ?hy53x26⟩) (by assumption) ?rest53x26
      case hy53x26 => intro w hSw; exact run_loadE rfl rfl (unhide HX _ hSw).2.2.1 Try.underlying30 (by kernel_rfl) (unhide HVm)
      simp only [Act.put, List.getElem_toArray, List.getElem_cons_zero, List.getElem_cons_succ, List.setIfInBounds_toArray, List.set_cons_zero, List.set_cons_succ]
      refine wpAnyH_ready (rs := [27]) (by as_aux_lemma => kernel_rfl) (by simp) ?_
      refine AllReadyH.cons rfl (fun K hK => ?_) AllReadyH.nil
      go_simp
      refine (unhide K12 _ (unhide HBW _ (unhide HB7))).mono ?_
      rintro e y7 ⟨rfl, hb7⟩
      refine hK _ _ (unhide HTR _ _ (unhide HB7) hb7) ?_
      clear hK hHeld
      have HB8 : Hid (Below (w.heap.size + 4) w4 y7) := unhide HTR _ _ (unhide HB7) hb7
      clear hb7 HB7
      intro hHeld
      refine wpAnyH_take (i := 28) (v := (.bool true)) rfl (by as_aux_lemma => kernel_rfl) (by as_aux_lemma => kernel_rfl) (by as_aux_lemma => kernel_rfl) (fun _ _ _ h => h) (Or.inl ⟨by rfl, ?hy54x28⟩) (by assumption) ?rest54x28
      case hy54x28 => intro w hSw; go_simp <;> with_reducible rfl
      simp only [Act.put, List.getElem_toArray, List.getElem_cons_zero, List.getElem_cons_succ, List.setIfInBounds_toArray, List.set_cons_zero, List.set_cons_succ]
      refine wpAnyH_take (i := 29) (v := (.bool true)) rfl (by as_aux_lemma => kernel_rfl) (by as_aux_lemma => kernel_rfl) (by as_aux_lemma => kernel_rfl) (fun _ _ _ h => h) (Or.inl ⟨by rfl, ?hy55x29⟩) (by assumption) ?rest55x29
      case hy55x29 => intro w hSw; go_simp <;> with_reducible rfl
      simp only [Act.put, List.getElem_toArray, List.getElem_cons_zero, List.getElem_cons_succ, List.setIfInBounds_toArray, List.set_cons_zero, List.set_cons_succ]
      refine wpAnyH_take (i := 30) (v := va) rfl (by as_aux_lemma => kernel_rfl) (by as_aux_lemma => kernel_rfl) (by as_aux_lemma => kernel_rfl) (fun _ _ _ h => h) (Or.inl ⟨by rfl, ?hy56x30⟩) (by assumption) ?rest56x30
      case hy56x30 => intro w hSw; exact run_loadE rfl rfl (unhide HX _ hSw).1 Try.underlying24 (by kernel_rfl) (unhide HVa)
      simp only [Act.put, List.getElem_toArray, List.getElem_cons_zero, List.getElem_cons_succ, List.setIfInBounds_toArray, List.set_cons_zero, List.set_cons_succ]
      refine wpAnyH_take (i := 32) (v := va) rfl (by as_aux_lemma => kernel_rfl) (by as_aux_lemma => kernel_rfl) (by as_aux_lemma => kernel_rfl) (fun _ _ _ h => h) (Or.inl ⟨by rfl, ?hy57x32⟩) (by assumption) ?rest57x32
      case hy57x32 => intro w hSw; exact run_loadE rfl rfl (unhide HX _ hSw).1 Try.underlying24 (by kernel_rfl) (unhide HVa)
      simp only [Act.put, List.getElem_toArray, List.getElem_cons_zero, List.getElem_cons_succ, List.setIfInBounds_toArray, List.set_cons_zero, List.set_cons_succ]
      refine wpAnyH_ready (rs := [31]) (by as_aux_lemma => kernel_rfl) (by simp) ?_
      refine AllReadyH.cons rfl (fun K hK => ?_) AllReadyH.nil
      go_simp
      refine (unhide H14 _ (unhide HBW _ (unhide HB8))).mono ?_
      rintro e y8 ⟨c14, rfl, o14, hb8⟩
      refine hK _ _ (unhide HTR _ _ (unhide HB8) hb8) ?_
      clear hK hHeld
      have HB9 : Hid (Below (w.heap.size + 4) w4 y8) := unhide HTR _ _ (unhide HB8) hb8
      clear hb8 HB8
      intro hHeld
      refine wpAnyH_ready (rs := [33]) (by as_aux_lemma => kernel_rfl) (by simp) ?_
      refine AllReadyH.cons rfl (fun K hK => ?_) AllReadyH.nil
      go_simp
      refine (unhide K11 c14 _ o14 (unhide HBW _ (unhide HB9))).mono ?_
      rintro e y9 ⟨rfl, hb9⟩
      refine hK _ _ (unhide HTR _ _ (unhide HB9) hb9) ?_
      clear hK hHeld
      have HB10 : Hid (Below (w.heap.size + 4) w4 y9) := unhide HTR _ _ (unhide HB9) hb9
      clear hb9 HB9
      intro hHeld
      refine wpAnyH_take (i := 34) (v := (.bool true)) rfl (by as_aux_lemma => kernel_rfl) (by as_aux_lemma => kernel_rfl) (by as_aux_lemma => kernel_rfl) (fun _ _ _ h => h) (Or.inl ⟨by rfl, ?hy58x34⟩) (by assumption) ?rest58x34
      case hy58x34 => intro w hSw; go_simp <;> with_reducible rfl
      simp only [Act.put, List.getElem_toArray, List.getElem_cons_zero, List.getElem_cons_succ, List.setIfInBounds_toArray, List.set_cons_zero, List.set_cons_succ]
      refine wpAnyH_take (i := 35) (v := (.bool true)) rfl (by as_aux_lemma => kernel_rfl) (by as_aux_lemma => kernel_rfl) (by as_aux_lemma => kernel_rfl) (fun _ _ _ h => h) (Or.inl ⟨by rfl, ?hy59x35⟩) (by assumption) ?rest59x35
      case hy59x35 => intro w hSw; go_simp <;> with_reducible rfl
      simp only [Act.put, List.getElem_toArray, List.getElem_cons_zero, List.getElem_cons_succ, List.setIfInBounds_toArray, List.set_cons_zero, List.set_cons_succ]
      refine wpAnyH_take (i := 36) (v := vm) rfl (by as_aux_lemma => kernel_rfl) (by as_aux_lemma => kernel_rfl) (by as_aux_lemma => kernel_rfl) (fun _ _ _ h => h) (Or.inl ⟨by rfl, ?hy60x36⟩) (by assumption) ?rest60x36
      case hy60x36 => intro w hSw; exact run_loadE rfl rfl (unhide HX _ hSw).2.2.1 Try.underlying30 (by kernel_rfl) (unhide HVm)
      simp only [Act.put, List.getElem_toArray, List.getElem_cons_zero, List.getElem_cons_succ, List.setIfInBounds_toArray, List.set_cons_zero, List.set_cons_succ]
      refine wpAnyH_take (i := 38) (v := vm) rfl (by as_aux_lemma => kernel_rfl) (by as_aux_lemma => kernel_rfl) (by as_aux_lemma => kernel_rfl) (fun _ _ _ h => h) (Or.inl ⟨by rfl, ?hy61x38⟩) (by assumption) ?rest61x38
      case hy61x38 => intro w hSw; exact run_loadE rfl rfl (unhide HX _ hSw).2.2.1 Try.underlying30 (by kernel_rfl) (unhide HVm)
      simp only [Act.put, List.getElem_toArray, List.getElem_cons_zero, List.getElem_cons_succ, List.setIfInBounds_toArray, List.set_cons_zero, List.set_cons_succ]
      refine wpAnyH_ready (rs := [37]) (by as_aux_lemma => kernel_rfl) (by simp) ?_
      refine AllReadyH.cons rfl (fun K hK => ?_) AllReadyH.nil
      go_simp
      refine (unhide H15 _ (unhide HBW _ (unhide HB10))).mono ?_
      rintro e y10 ⟨c15, rfl, o15, hb10⟩
      refine hK _ _ (unhide HTR _ _ (unhide HB10) hb10) ?_
      clear hK hHeld
      have HB11 : Hid (Below (w.heap.size + 4) w4 y10) := unhide HTR _ _ (unhide HB10) hb10
      clear hb10 HB10
      intro hHeld
      refine wpAnyH_ready (rs := [39]) (by as_aux_lemma => kernel_rfl) (by simp) ?_
      refine AllReadyH.cons rfl (fun K hK => ?_) AllReadyH.nil
      go_simp
      refine (unhide K13 c15 _ o15 (unhide HBW _ (unhide HB11))).mono ?_
      rintro e y11 ⟨rfl, hb11⟩
      refine hK _ _ (unhide HTR _ _ (unhide HB11) hb11) ?_
      clear hK hHeld
      have HB12 : Hid (Below (w.heap.size + 4) w4 y11) := unhide HTR _ _ (unhide HB11) hb11
      clear hb11 HB11
      intro hHeld
      refine wpAnyH_take (i := 40) (v := (.bool true)) rfl (by as_aux_lemma => kernel_rfl) (by as_aux_lemma => kernel_rfl) (by as_aux_lemma => kernel_rfl) (fun _ _ _ h => h) (Or.inl ⟨by rfl, ?hy62x40⟩) (by assumption) ?rest62x40
      case hy62x40 => intro w hSw; go_simp <;> with_reducible rfl
      simp only [Act.put, List.getElem_toArray, List.getElem_cons_zero, List.getElem_cons_succ, List.setIfInBounds_toArray, List.set_cons_zero, List.set_cons_succ]
      refine wpAnyH_take (i := 41) (v := (.bool true)) rfl (by as_aux_lemma => kernel_rfl) (by as_aux_lemma => kernel_rfl) (by as_aux_lemma => kernel_rfl) (fun _ _ _ h => h) (Or.inl ⟨by rfl, ?hy63x41⟩) (by assumption) ?rest63x41
      case hy63x41 => intro w hSw; go_simp <;> with_reducible rfl
      simp only [Act.put, List.getElem_toArray, List.getElem_cons_zero, List.getElem_cons_succ, List.setIfInBounds_toArray, List.set_cons_zero, List.set_cons_succ]
      refine wpAnyH_done (by as_aux_lemma => kernel_rfl) ?_ _
      have HF := hide (unhide HBW _ (unhide HB12))
      clear HTR HBW
      go_wp2
      go_ret
      exact ⟨rfl, unhide HF⟩

end Go.Proofs.Ytggllgimlfchhaa
