/- Several texts as one. -/
import Derived.Shelf.SlSortCmp.NoneTotal
import Derived.Test.YtibjhjkeflbghaaChecked
import Derived.Test.YtibjhjkeflbghaaKA

/- The library's contracts at this seat, in plain words. -/
namespace Go.Proofs
open Go.Shelf
def Try.sortK_ren : Go.Shelf.Ren := ⟨fun | 6 => 54 | 15 => 65 | 14 => 64 | 28 => 81 | 29 => 82 | 20 => 73 | 21 => 74 | 22 => 75 | 23 => 76 | 24 => 77 | 25 => 78 | 26 => 79 | 27 => 80 | 46 => 94 | 47 => 95 | 48 => 96 | 49 => 97 | 50 => 98 | 57 => 103 | n => n, fun | 22 => 24 | 24 => 37 | 25 => 95 | 3 => 3 | 39 => 99 | 0 => 0 | 53 => 111 | 55 => 97 | 4 => 4 | 46 => 117 | 45 => 116 | 50 => 121 | 5 => 5 | 9 => 9 | 66 => 132 | 70 => 136 | 76 => 141 | 77 => 142 | n => n, fun | n => n⟩
theorem Try.sortK : Go.Proofs.SlLaysF0.n6 Try.prog Try.sortK_ren := {
  mixed := by kernel_rfl
  f6 := ⟨Try.f54.name, by decide, Try.func54.trans (congrArg some (by kernel_rfl))⟩
  f14 := ⟨Try.f64.name, by decide, Try.func64.trans (congrArg some (by kernel_rfl))⟩
  f15 := Try.func65.trans (congrArg some (by kernel_rfl))
  f20 := ⟨Try.f73.name, by decide, Try.func73.trans (congrArg some (by kernel_rfl))⟩
  f21 := ⟨Try.f74.name, by decide, Try.func74.trans (congrArg some (by kernel_rfl))⟩
  f22 := ⟨Try.f75.name, by decide, Try.func75.trans (congrArg some (by kernel_rfl))⟩
  f23 := ⟨Try.f76.name, by decide, Try.func76.trans (congrArg some (by kernel_rfl))⟩
  f24 := ⟨Try.f77.name, by decide, Try.func77.trans (congrArg some (by kernel_rfl))⟩
  f25 := ⟨Try.f78.name, by decide, Try.func78.trans (congrArg some (by kernel_rfl))⟩
  f26 := ⟨Try.f79.name, by decide, Try.func79.trans (congrArg some (by kernel_rfl))⟩
  f27 := ⟨Try.f80.name, by decide, Try.func80.trans (congrArg some (by kernel_rfl))⟩
  f28 := Try.func81.trans (congrArg some (by kernel_rfl))
  f29 := Try.func82.trans (congrArg some (by kernel_rfl))
  f46 := ⟨Try.f94.name, by decide, Try.func94.trans (congrArg some (by kernel_rfl))⟩
  f47 := Try.func95.trans (congrArg some (by kernel_rfl))
  f48 := Try.func96.trans (congrArg some (by kernel_rfl))
  f49 := ⟨Try.f97.name, by decide, Try.func97.trans (congrArg some (by kernel_rfl))⟩
  f50 := ⟨Try.f98.name, by decide, Try.func98.trans (congrArg some (by kernel_rfl))⟩
  f57 := ⟨Try.f103.name, by decide, Try.func103.trans (congrArg some (by kernel_rfl))⟩
  t0 := Try.underlying0
  a0 := Try.isAgg0
  z0 := Try.sizeOf0
  v0 := Try.zeroValue0
  t3 := Try.underlying3
  a3 := Try.isAgg3
  z3 := Try.sizeOf3
  v3 := Try.zeroValue3
  t4 := Try.underlying4
  a4 := Try.isAgg4
  z4 := Try.sizeOf4
  v4 := Try.zeroValue4
  t5 := Try.underlying5
  a5 := Try.isAgg5
  z5 := Try.sizeOf5
  v5 := Try.zeroValue5
  t9 := Try.underlying9
  a9 := Try.isAgg9
  z9 := Try.sizeOf9
  v9 := Try.zeroValue9
  t22 := Try.underlying24
  a22 := Try.isAgg24
  z22 := Try.sizeOf24
  v22 := Try.zeroValue24
  t25 := Try.underlying95
  a25 := Try.isAgg95
  z25 := Try.sizeOf95
  v25 := Try.zeroValue95
  t39 := Try.underlying99
  a39 := Try.isAgg99
  z39 := Try.sizeOf99
  v39 := Try.zeroValue99
  t45 := Try.underlying116
  a45 := Try.isAgg116
  z45 := Try.sizeOf116
  v45 := Try.zeroValue116
  t46 := Try.underlying117
  a46 := Try.isAgg117
  z46 := Try.sizeOf117
  v46 := Try.zeroValue117
  t50 := Try.underlying121
  a50 := Try.isAgg121
  z50 := Try.sizeOf121
  v50 := Try.zeroValue121
  t53 := Try.underlying111
  a53 := Try.isAgg111
  z53 := Try.sizeOf111
  v53 := Try.zeroValue111
  t55 := Try.underlying97
  a55 := Try.isAgg97
  z55 := Try.sizeOf97
  v55 := Try.zeroValue97
  t66 := Try.underlying132
  a66 := Try.isAgg132
  z66 := Try.sizeOf132
  v66 := Try.zeroValue132
  t70 := Try.underlying136
  a70 := Try.isAgg136
  z70 := Try.sizeOf136
  v70 := Try.zeroValue136
  t76 := Try.underlying141
  a76 := Try.isAgg141
  z76 := Try.sizeOf141
  v76 := Try.zeroValue141
  t77 := Try.underlying142
  a77 := Try.isAgg142
  z77 := Try.sizeOf142
  v77 := Try.zeroValue142 }
end Go.Proofs

/- slices.SortFunc on rows of one's own: keys by Compare, pairs by their keys. -/
namespace Go.Proofs.Ytibjhjkeflbghaa
open Go.RowKit Go.Sort
set_option maxRecDepth 100000

theorem frozen_of_heap {w : World} {b o : Nat} {cs : Array Value} {T : TypeId} (h : w.heap[b]? = some (.cells cs T)) : w.frozen? ⟨b, o, none⟩ = false := by
  simp [World.frozen?, h]
section
variable {α : Type} [Inhabited α] {c : α → List Value} {k : Nat}
theorem flatK_eq (hk : ∀ x, (c x).length = k) (hk0 : 0 < k) (D : List α) : flatK c k D.toArray = (D.flatMap c).toArray := by
  refine ext_get! (by rw [size_flatK]; simp only [List.size_toArray]; rw [flat_len hk]) fun t ht => ?_
  have ht' : t < D.length * k := by simpa using ht
  have hq : t / k < D.length := Nat.div_lt_of_lt_mul (by rw [Nat.mul_comm]; exact ht')
  have hm : t % k < k := Nat.mod_lt _ hk0
  have hjk : t / k * k + t % k = t := by rw [Nat.mul_comm]; exact Nat.div_add_mod t k
  rw [get_flatK c k _ t (by simpa using ht')]
  have e0 : D[t / k]? = some D[t / k] := List.getElem?_eq_getElem hq
  have := flat_at hk D (t / k) _ e0 (t % k) hm
  rw [hjk] at this
  have e1 : D.toArray[t / k]! = D[t / k] := by simp [hq]
  rw [e1, List.getElem!_eq_getElem?_getD, ← this]
  simp
theorem own_holds (hk : ∀ x, (c x).length = k) (hk0 : 0 < k) {w : World} {base e n g cap : Nat} {D : List α} (h : w.ownsRow base e k (.slice (some ⟨g, 0, none⟩) n cap) n (D.flatMap c)) : HoldsK c k w g 0 D.toArray := by
  unfold HoldsK
  rw [flatK_eq hk hk0]
  intro j hj
  have hj' : j < (D.flatMap c).length := by simpa using hj
  have h' := h
  rcases h.2 with ⟨e0, _⟩ | ⟨g', cap', cur, hv, _, hg, _⟩
  · cases e0
  · cases hv
    have := h'.cells (g := g) rfl j _ (List.getElem?_eq_getElem hj')
    have e : (⟨g, 0, none⟩ : Addr).add j = ⟨g, j, none⟩ := by unfold Addr.add; split <;> simp_all
    rw [e] at this
    rw [Nat.zero_add]
    refine ⟨?_, frozen_of_heap hg⟩
    rw [this]
    simp [List.getElem?_eq_getElem hj']
/-- A row of one's own behind the sort. -/
theorem own_sorted (hk : ∀ x, (c x).length = k) (hk0 : 0 < k) {w : World} {base e n g cap m : Nat} {D D' : List α} {os : Array Obj} (h : w.ownsRow base e k (.slice (some ⟨g, 0, none⟩) n cap) n (D.flatMap c)) (hl : D'.length = D.length) :
    (sortWorldK c k w g 0 m D'.toArray os).ownsRow base e k (.slice (some ⟨g, 0, none⟩) n cap) n (D'.flatMap c) ∧ Below g w (sortWorldK c k w g 0 m D'.toArray os) ∧ (∀ j, j < w.heap.size → j ≠ g → (sortWorldK c k w g 0 m D'.toArray os).heap[j]? = w.heap[j]?) ∧ w.heap.size ≤ (sortWorldK c k w g 0 m D'.toArray os).heap.size := by
  have hlen := h.1
  rcases h.2 with ⟨e0, _⟩ | ⟨g', cap', cur, hv, hb, hg, hnc, hcm, hcs, ht⟩
  · cases e0
  cases hv
  have hlt := (Array.getElem?_eq_some_iff.1 hg).1
  have hsz : ((D'.flatMap c).toArray).size = n * k := by rw [List.size_toArray, flat_len hk, hl, ← flat_len hk D]; exact hlen
  have hP : (putRowK c k (Sort.ahead w m) g 0 D'.toArray).heap = w.heap.modify g (onCells (putCells id 0 (D'.flatMap c).toArray)) := by
    unfold putRowK
    rw [flatK_eq hk hk0]
    rfl
  have hS : (putRowK c k (Sort.ahead w m) g 0 D'.toArray).heap.size = w.heap.size := by rw [hP]; simp
  have old : ∀ j, j < w.heap.size → (sortWorldK c k w g 0 m D'.toArray os).heap[j]? = (w.heap.modify g (onCells (putCells id 0 (D'.flatMap c).toArray)))[j]? := fun j hj => by
    unfold sortWorldK
    rw [heap_grow_old _ _ (by rw [hS]; exact hj), hP]
  have hoth : ∀ j, j < w.heap.size → j ≠ g → (sortWorldK c k w g 0 m D'.toArray os).heap[j]? = w.heap[j]? := fun j hj hne => by
    rw [old j hj, Array.getElem?_modify, if_neg (Ne.symm hne)]
  have hle : w.heap.size ≤ (sortWorldK c k w g 0 m D'.toArray os).heap.size := by
    unfold sortWorldK Sort.grow
    simp only [Array.size_append]
    rw [hS]
    omega
  refine ⟨⟨by rw [flat_len hk, hl, ← flat_len hk D]; exact hlen, .inr ⟨g, cap, putCells id 0 (D'.flatMap c).toArray cur, rfl, hb, ?_, hnc, hcm, by simp [putCells, hcs], ?_⟩⟩, ⟨rfl, rfl, rfl, hle, fun j hj => hoth j (by omega) (by omega)⟩, hoth, hle⟩
  · rw [old g hlt, Array.getElem?_modify, if_pos rfl, hg]
    rfl
  · have hl' : (D'.flatMap c).length = n * k := by simpa using hsz
    refine List.ext_getElem? fun i => ?_
    by_cases hi : i < n * k
    · have hic : i < cur.size := by rw [hcs]; exact Nat.lt_of_lt_of_le hi (Nat.mul_le_mul_right k hnc)
      rw [List.getElem?_take_of_lt hi]
      simp only [putCells, Array.toList_mapIdx, List.getElem?_mapIdx]
      rw [List.getElem?_eq_getElem (by simpa using hic)]
      simp only [Option.map_some, Nat.zero_le, Nat.zero_add, true_and, Nat.sub_zero, id]
      rw [if_pos (by rw [hsz]; exact hi), List.getElem?_eq_getElem (by rw [hl']; exact hi)]
      have hi' : i < (D'.flatMap c).length := by rw [hl']; exact hi
      simp [List.getElem?_eq_getElem hi']
    · rw [List.getElem?_eq_none (by rw [List.length_take]; omega), List.getElem?_eq_none (by rw [hl']; omega)]
end

/-! ### keys -/
theorem ltOf_cmpK (x y : Ky) : ltOf cmpK x y = decide (ltK x y) := by
  unfold ltOf
  rw [decide_eq_decide]
  exact cmpK_neg x y
theorem swoK : SWO (ltOf cmpK) where
  irrefl x := by rw [ltOf_cmpK]; simp [ltK_irrefl]
  trans x y z h1 h2 := by
    rw [ltOf_cmpK, decide_eq_true_eq] at *
    exact ltK_trans h1 h2
  ntrans x y z h1 h2 := by
    rw [ltOf_cmpK, decide_eq_false_iff_not] at *
    unfold ltK at *
    omega
theorem cmpLaysK (blk off size : Nat) (w : World) : CmpLays Try.prog 55 #[] kC 2 cmpK blk off size w := fun _ _ _ _ x y => (compare_any x.1 x.2 y.1 y.2 _).mono fun _ _ ⟨he, q, os, hw⟩ => ⟨he, q, os, hw⟩
theorem enters10 : ∀ args w, (callFunc 55 args).run Try.prog w = .ok (.enter 55 args) w := enters_of Try.func55 (by kernel_rfl) rfl
/-- Rising, each once. -/
def Rises (l : List Ky) : Prop := l.Pairwise ltK
theorem sortK_any {w : World} {base n : Nat} {v : Value} {D : List Ky} (h : w.ownsRow base 37 2 v n (D.flatMap kC)) (hd : D.Nodup) (hbase : base ≤ w.heap.size) (hn : n < 4611686018427387904) :
    Calls Try.prog 54 #[v, .func (.func 55) #[] #[]] w fun e w' => e = .returned (.tuple #[]) ∧ ∃ D', w'.ownsRow base 37 2 v n (D'.flatMap kC) ∧ Rises D' ∧ D'.Perm D ∧ Below base w w' := by
  obtain ⟨hnl, _⟩ := own_sees kC_len (by decide) h
  rcases h.2 with ⟨rfl, h0⟩ | ⟨g, cap, cur, rfl, hb, hg, _⟩
  · subst h0
    obtain rfl : D = [] := List.length_eq_zero_iff.1 hnl.symm
    refine (AnyF.slices_SortFunc_none { Try.sortK with } none 0 (.func (.func 55) #[] #[]) w).mono fun e w' hh => ?_
    obtain ⟨rfl, rfl⟩ := hh
    exact ⟨rfl, [], h, List.Pairwise.nil, List.Perm.refl _, Below.refl _ _⟩
  · have hsz : D.toArray.size = n := by simpa using hnl.symm
    have hcon := AnyQ.slices_SortFunc Try.sortK 2 Try.isAgg37 Try.sizeOf37 kC kC_len kC_one cmpK swoK 55 #[] g 0 cap D.toArray w enters10 (cmpLaysK g 0 D.toArray.size w) (own_holds kC_len (by decide) h) (Array.getElem?_eq_some_iff.1 hg).1 (by rw [hsz]; exact hn)
    rw [hsz] at hcon
    refine hcon.mono fun e w' hh => ?_
    obtain ⟨rfl, ⟨D'⟩, m, os, ⟨hs1, _, hp⟩, hso, rfl⟩ := hh
    have hl : D'.length = D.length := by simpa using hs1
    have e1 : (Array.mk D').extract 0 n = Array.mk D' := by
      have : n = (Array.mk D').size := by simp [hl, hnl]
      rw [this]; exact Array.extract_size
    have e2 : D.toArray.extract 0 n = D.toArray := by rw [← hsz]; exact Array.extract_size
    rw [e1, e2] at hp
    simp only at hp
    obtain ⟨o1, o2, o3, o4⟩ := own_sorted (m := m) (os := os) kC_len (by decide) h hl
    refine ⟨rfl, D', o1, ?_, hp, ⟨o2.os, o2.tape, o2.output, o2.size, fun j hj => o3 j (by omega) (by omega)⟩⟩
    have hnd : D'.Nodup := hp.nodup_iff.2 hd
    refine List.pairwise_iff_getElem.2 fun i j hi hj hij => ?_
    have hx := hso i j (Nat.zero_le _) hij (by omega)
    have gi : (Array.mk D')[i]! = D'[i] := by simp [hi]
    have gj : (Array.mk D')[j]! = D'[j] := by simp [hj]
    rw [gi, gj, ltOf_cmpK, decide_eq_false_iff_not] at hx
    by_cases hlt : ltK D'[i] D'[j]
    · exact hlt
    · have := ltK_total hlt hx
      exact absurd this (List.pairwise_iff_getElem.1 hnd i j hi hj hij)

/-! ### pairs -/
def cmpP (x y : Pr) : Int := cmpK x.1 y.1
theorem ltOf_cmpP (x y : Pr) : ltOf cmpP x y = decide (ltK x.1 y.1) := ltOf_cmpK x.1 y.1
theorem swoP : SWO (ltOf cmpP) where
  irrefl x := swoK.irrefl x.1
  trans x y z h1 h2 := swoK.trans x.1 y.1 z.1 h1 h2
  ntrans x y z h1 h2 := swoK.ntrans x.1 y.1 z.1 h1 h2
def RisesP (l : List Pr) : Prop := l.Pairwise fun a b => ltK a.1 b.1
end Go.Proofs.Ytibjhjkeflbghaa
