/- bytes.Equal, slices.Equal, slices.Contains. -/
import Derived.Test.YtknpfippdddnhabDoorY2
namespace Go.Proofs.YtknpfippdddnhabDoor
open Go.RowKit Go.Shelf
set_option maxRecDepth 100000

/-- Numbers of one kind seen under a slice. -/
def Sees (w : World) (k : IntKind) (v : Value) (zs : List Int) : Prop :=
  ∃ ao cap, v = .slice ao zs.length cap ∧ zs.length ≤ cap ∧ (ao = none → cap = 0) ∧ ∀ a, ao = some a → ∀ t, t < zs.length → w.cell? (a.add t) = some (.int k (zs.getD t 0))
theorem SeesL.see8 {w : World} {v : Value} {l : List Int} (h : SeesL yC 1 w v l) : Sees w .u8 v l := by
  obtain ⟨ao, cap, gb, ob, rfl, h1, _, h2, h3, h4⟩ := h
  refine ⟨ao, cap, rfl, h1, h2, fun a e t ht => ?_⟩
  obtain rfl := h3 (by omega)
  obtain rfl := Option.some.inj e
  have := h4 t _ (List.getElem?_eq_getElem ht) 0 (by decide)
  have e2 : (⟨gb, ob, none⟩ : Addr).add t = ⟨gb, ob + t, none⟩ := by unfold Addr.add; split <;> simp_all
  rw [e2]
  simp only [Nat.mul_one, Nat.add_zero] at this
  rw [this]
  simp [yC, List.getD, ht]
/-- An element of numbers seen. -/
theorem SeesL.num {w : World} {ao : Option Addr} {n cap : Nat} {l : List Int} (h : SeesL nC 1 w (.slice ao n cap) l) : n = l.length ∧ ∃ gb ob, (0 < l.length → ao = some ⟨gb, ob, none⟩) ∧ ∀ t, t < l.length → w.cell? ⟨gb, ob + t, none⟩ = some (.int .i64 (l.getD t 0)) := by
  obtain ⟨ao', cap', gb, ob, hv, h1, _, h2, h3, h4⟩ := h
  simp only [Value.slice.injEq] at hv
  obtain ⟨rfl, rfl, rfl⟩ := hv
  refine ⟨rfl, gb, ob, h3, fun t ht => ?_⟩
  have := h4 t _ (List.getElem?_eq_getElem ht) 0 (by decide)
  simp only [Nat.mul_one, Nat.add_zero] at this
  rw [this]
  simp [nC, List.getD, ht]
/-- Bytes as a string. -/
def strOf (l : List Int) : ByteArray := ⟨(l.map fun n => UInt8.ofNat n.toNat).toArray⟩
theorem strOf_inj {a b : List Int} (ha : Byt a) (hb : Byt b) (h : strOf a = strOf b) : a = b := by
  simp only [strOf, ByteArray.mk.injEq] at h
  have h' := congrArg Array.toList h
  simp only at h'
  clear h
  induction a generalizing b with
  | nil => cases b with
    | nil => rfl
    | cons y r => simp at h'
  | cons x r ih => cases b with
    | nil => simp at h'
    | cons y q =>
      simp only [List.map_cons, List.cons.injEq] at h'
      have hx := ha x (List.mem_cons_self ..)
      have hy := hb y (List.mem_cons_self ..)
      have e := congrArg UInt8.toNat h'.1
      simp only [UInt8.toNat_ofNat'] at e
      have e' : x = y := by omega
      rw [e', ih (fun z hz => ha z (List.mem_cons_of_mem _ hz)) (fun z hz => hb z (List.mem_cons_of_mem _ hz)) h'.2]

theorem run_conv_sees {P : Program} (w : World) (src dst e : TypeId) (v : Value) (xs : List Int) (hs : P.underlying src = some (.slice e)) (he : P.underlying e = some (.int .u8)) (hd : P.underlying dst = some .string)
    (hv : Sees w .u8 v xs) (hb : Byt xs) : (convert src dst v).run P w = .ok (.string (strOf xs)) w := by
  obtain ⟨ao, cap, rfl, hl, hn, hc⟩ := hv
  cases ao with
  | none =>
    obtain rfl := hn rfl
    obtain rfl : xs = [] := List.length_eq_zero_iff.1 (by omega)
    simp only [List.length_nil]
    rw [run_convert_bytes_string w src dst e none 0 0 hs he hd]
    simp [Conv.bytesToString]
    rfl
  | some a =>
    have := run_convert_bytes_back (P := P) w src dst e a cap (xs.map fun n => UInt8.ofNat n.toNat) hs he hd (fun j hj => by
      have hj' : j < xs.length := by simpa using hj
      rw [hc a rfl j hj']
      have hbj := hb.get j
      simp [List.getD, hj'] at hbj ⊢
      omega)
    rw [List.length_map] at this
    exact this

theorem str_beq {xs ys : List Int} (hx : Byt xs) (hy : Byt ys) : ((strOf xs).toList == (strOf ys).toList) = decide (xs = ys) := by
  rw [ByteArray.toList_eq, ByteArray.toList_eq, Bool.eq_iff_iff]
  simp only [beq_iff_eq, decide_eq_true_eq]
  constructor
  · intro h
    refine strOf_inj hx hy ?_
    have : (strOf xs).data = (strOf ys).data := Array.toList_inj.1 h
    cases hs : strOf xs
    cases hs' : strOf ys
    rw [hs, hs'] at this
    simp_all
  · rintro rfl; rfl


set_option maxHeartbeats 400000 in
theorem equal_any {av bv : Value} {xs ys : List Int} {w : World} (ha : SeesL yC 1 w av xs) (hb : SeesL yC 1 w bv ys) (hx : Byt xs) (hy : Byt ys) :
    Calls Tryd.prog 10 #[av, bv] w fun e w' => e = .returned (.bool (decide (xs = ys))) ∧ w = w' := by
  have h1 := run_conv_sees (P := Tryd.prog) w 22 9 5 av xs Tryd.underlying22 Tryd.underlying5 Tryd.underlying9 ha.see8 hx
  have h2 := run_conv_sees (P := Tryd.prog) w 22 9 5 bv ys Tryd.underlying22 Tryd.underlying5 Tryd.underlying9 hb.see8 hy
  clear ha hb
  go_enter Tryd.func10, Tryd.ntmps10
  go_wp2
  go_ret
  exact ⟨by rw [← str_beq hx hy]; rfl, rfl⟩
theorem eq_of_take {A B : List Int} {j : Nat} (hl : A.length = B.length) (hj : A.length ≤ j) (h : ∀ t, t < j → A.getD t 0 = B.getD t 0) : A = B := list_alike hl fun t ht => h t (by omega)
set_option maxHeartbeats 800000 in
theorem eqN_any {w : World} {u v : Value} {A B : List Int} (ha : SeesL nC 1 w u A) (hb : SeesL nC 1 w v B) (hm : A.length ≤ 140737488351232) :
    Calls Tryd.prog 24 #[u, v] w fun e w' => e = .returned (.bool (decide (A = B))) ∧ Grew w w' := by
  obtain ⟨ao, ca, rfl⟩ := ha.shape
  obtain ⟨bo, cb, rfl⟩ := hb.shape
  by_cases hl : A.length = B.length
  · obtain ⟨-, ga, oa, hao, hca⟩ := ha.num
    obtain ⟨-, gb, ob, hbo, hcb⟩ := hb.num
    rw [← hl] at hbo hcb ⊢
    obtain ⟨n, hn⟩ : ∃ n, A.length = n := ⟨_, rfl⟩
    have HN := hide hn
    have HL := hide hl
    rw [hn] at hao hbo hca hcb hm ⊢
    have HCA : Hid (∀ z, Grew w z → ∀ t, t < n → z.cell? ⟨ga, oa + t, none⟩ = some (.int .i64 (A.getD t 0)) ∧ z.cell? ⟨gb, ob + t, none⟩ = some (.int .i64 (B.getD t 0))) := fun z hz t ht => ⟨(hz.below.cell (World.block_lt_of_cell? w _ (hca t ht))).trans (hca t ht), (hz.below.cell (World.block_lt_of_cell? w _ (hcb t ht))).trans (hcb t ht)⟩
    have hne : ((n : Int) != (n : Int)) = false := by simp
    obtain ⟨d, hd⟩ : ∃ d, decide (A = B) = d := ⟨_, rfl⟩
    rw [hd]
    have HD := hide hd
    clear ha hb hn hl hca hcb hd
    have HAO := hide hao
    have HBO := hide hbo
    clear hao hbo
    go_enter Tryd.func24, Tryd.ntmps24
    go_wp2
    go_loopw [13] (fun vi wr => ∃ j : Nat, j ≤ n ∧ vi = .int .i64 j ∧ Grew w wr ∧ ∀ t, t < j → A.getD t 0 = B.getD t 0) (fun vi _ => n - (intOf vi).toNat)
    case atStart => exact ⟨0, Nat.zero_le _, rfl, grew_refl w, fun t h => absurd h (by omega)⟩
    case round =>
      obtain ⟨z, rfl⟩ : ∃ z, z = wr := ⟨_, rfl⟩
      obtain ⟨j, hj, rfl, hg, hall⟩ := hrel
      have HG := hide hg
      have HA := hide hall
      by_cases hlt : j < n
      · obtain ⟨h1, h2⟩ := unhide HCA z hg j hlt
        have hl2 : (j : Int) < (n : Int) := by omega
        obtain rfl := unhide HAO (by omega)
        obtain rfl := unhide HBO (by omega)
        by_cases he : A.getD j 0 = B.getD j 0
        · have HE := hide he
          rw [← he] at h2
          have hne3 : (A.getD j 0 != A.getD j 0) = false := by simp
          generalize A.getD j 0 = x at h1 h2 hne3
          clear hg hall he
          go_wp2
          go_quiet (fail)
          go_wp2
          go_roundw
          case rel =>
            refine ⟨j + 1, by omega, by go_num, grew_drewN (unhide HG) nq, fun t ht => ?_⟩
            by_cases e : t = j
            · subst e; exact unhide HE
            · exact unhide HA t (by omega)
          case measure => simp [intOf]; omega
        · have hne3 : (A.getD j 0 != B.getD j 0) = true := by simpa using he
          have hdf : d = false := by
            rw [← unhide HD]
            exact decide_eq_false fun e => he (by rw [e])
          subst hdf
          generalize A.getD j 0 = x at h1 hne3
          generalize B.getD j 0 = y at h2 hne3
          clear hg hall he
          go_wp2
          go_quiet (fail)
          go_wp2
          go_ret
          exact ⟨rfl, grew_drewN (unhide HG) nq⟩
      · have hdt : d = true := by
          rw [← unhide HD]
          exact decide_eq_true (eq_of_take (unhide HL) (by rw [unhide HN]; omega) hall)
        subst hdt
        clear hg hall
        go_wp2
        go_ret
        exact ⟨rfl, unhide HG⟩
  · have hd : decide (A = B) = false := decide_eq_false fun e => hl (by rw [e])
    rw [hd]
    have hne : ((A.length : Int) != (B.length : Int)) = true := by
      rw [bne_iff_ne]
      omega
    clear ha hb hd
    generalize A.length = n at *
    generalize B.length = m at *
    go_enter Tryd.func24, Tryd.ntmps24
    go_wp2
    go_ret
    exact ⟨rfl, grew_refl w⟩
def IxR (d : Bool) (w : World) (e : Ending) (w' : World) : Prop := ∃ i : Int, e = .returned (.int .i64 i) ∧ decide (i ≥ 0) = d ∧ w = w'
end Go.Proofs.YtknpfippdddnhabDoor
