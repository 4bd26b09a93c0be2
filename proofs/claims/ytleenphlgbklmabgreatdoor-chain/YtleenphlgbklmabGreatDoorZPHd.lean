import Derived.Test.YtleenphlgbklmabGreatDoorZTxL
set_option linter.unusedVariables false
set_option linter.unusedSimpArgs false
namespace Go.Proofs.YtleenphlgbklmabGreatDoor
open Go.RowKit

def ptrV (b : Nat) : Value := .pointer (some ⟨b, 0, none⟩)
/-- texts that were laid out, so far. -/
structure LSI (w : World) (ad : List Nat) (σ : St) (tb k : Nat) (tys : List Ty) (bs : List Nat) (wr : World) : Prop where
  row : wr.heap[tb]? = some (.cells ((bs.map ptrV) ++ List.replicate (k - bs.length) (Value.pointer none)).toArray 120 (0, 0))
  tls : ∀ j (h : j < bs.length) (h2 : j < tys.length), ∃ B pm fv sp, TL wr B bs[j] pm fv sp ∧ decS sp = canT tys[j] ∧ tb < B
  sx : SX wr ad σ
  kt : Kt ad (fun _ => False) w wr
theorem not_tbp {cs : Array Value} {f : Nat × Nat} : ¬ TB (.cells cs 120 f) := by
  rintro ⟨cs', e, f', he, ht⟩
  simp only [Obj.cells.injEq] at he
  obtain ⟨_, rfl, _⟩ := he
  rcases ht with e | e | e | e <;> cases e
theorem not_tbi {cs : Array Value} {f : Nat × Nat} : ¬ TB (.cells cs 77 f) := by
  rintro ⟨cs', e, f', he, ht⟩
  simp only [Obj.cells.injEq] at he
  obtain ⟨_, rfl, _⟩ := he
  rcases ht with e | e | e | e <;> cases e
theorem made_repP (k : Nat) : madeCells #[Value.pointer none] k = (List.replicate k (Value.pointer none)).toArray := by
  rw [← toList_madeCells_one]
theorem rep_consP {bs : List Nat} {k : Nat} (h : bs.length < k) : (bs.map ptrV) ++ List.replicate (k - bs.length) (Value.pointer none) = (bs.map ptrV) ++ Value.pointer none :: List.replicate (k - bs.length - 1) (Value.pointer none) := by
  congr 1
  rw [← List.replicate_succ]
  congr 1
  omega
/-- one text more. -/
theorem LSI.step {w : World} {ad : List Nat} {σ : St} {tb k : Nat} {tys : List Ty} {bs : List Nat} {wr w2 w3 : World} (h : LSI w ad σ tb k tys bs wr) (htb : w.heap.size ≤ tb) (hlt : bs.length < k) (hk2 : Kept wr w2) {mb : Nat} (hmb : wr.heap.size ≤ mb) (hk3 : Kt ad (· = mb) w2 w3) {b pm : Nat} {fv : Value} {sp : List Sp} (hT : TL w3 w2.heap.size b pm fv sp) (hd : ∀ h : bs.length < tys.length, decS sp = canT tys[bs.length]) (hs : SX w3 ad σ) :
    LSI w ad σ tb k tys (bs ++ [b]) (w3.setCell ⟨tb, bs.length, none⟩ (ptrV b)) ∧ w3.cell? ⟨tb, bs.length, none⟩ = some (.pointer none) ∧ w3.frozen? ⟨tb, bs.length, none⟩ = false := by
  have htl := lt_of_block h.row
  have hk0 : Kt ad (· = mb) wr w3 := (Kt.of_kept hk2).trans hk3
  have hkr : Kt ad (fun _ => False) wr w3 := ⟨hk0.os, hk0.output, hk0.size, fun q o hq _ ht => hk0.blk0 q o hq (fun z => by have z : q = mb := z; have := lt_of_block hq; omega) ht⟩
  have hrow := hkr.blk tb _ h.row id not_tbp
  rw [rep_consP hlt] at hrow
  have hne : ∀ q, q ≠ tb → (w3.setCell ⟨tb, bs.length, none⟩ (ptrV b)).heap[q]? = w3.heap[q]? := fun q hq => Below.heap_setCell _ _ _ q (fun z => hq z)
  have hks : Kt ad (fun q => q = tb) w3 (w3.setCell ⟨tb, bs.length, none⟩ (ptrV b)) := ⟨rfl, rfl, by simp, fun q o hq hn _ => (hne q hn).trans hq⟩
  refine ⟨⟨?_, ?_, ?_, ?_⟩, ?_, ?_⟩
  · have := row_set hrow bs.length (by simp) (ptrV b)
    rw [this]
    simp only [List.map_append, List.map_cons, List.map_nil, List.length_append, List.length_cons, List.length_nil, List.append_assoc, List.cons_append, List.nil_append, Nat.zero_add]
    rw [Nat.sub_add_eq]
  · intro j hj h2
    by_cases hj2 : j < bs.length
    · obtain ⟨B, pm', fv', sp', q1, q2, q3⟩ := h.tls j hj2 h2
      rw [List.getElem_append_left hj2]
      exact ⟨B, pm', fv', sp', TL.kt (TL.kt q1 hkr (fun q z => z.elim)) hks (fun q z => by rw [show q = tb from z]; exact q3), q2, q3⟩
    · have hje : j = bs.length := by simp at hj; omega
      subst hje
      rw [List.getElem_append_right (Nat.le_refl _)]
      simp only [Nat.sub_self, List.getElem_cons_zero]
      exact ⟨w2.heap.size, pm, fv, sp, TL.kt hT hks (fun q z => by rw [show q = tb from z]; exact Nat.lt_of_lt_of_le htl hk2.size), hd h2, Nat.lt_of_lt_of_le htl hk2.size⟩
  · refine hs.keep (fun a o ha ho => (hne a (fun z => ?_)).trans ho)
    obtain ⟨τ, hτ, _⟩ := hs
    obtain ⟨o', ho', ht⟩ := hτ.tb ha
    rw [z, hrow] at ho'
    cases ho'
    exact not_tbp ht
  · have h1 := h.kt.trans hkr
    exact ⟨h1.os, h1.output, by simpa using h1.size, fun q o hq hn ht => (hne q (fun z => by have := lt_of_block hq; omega)).trans (h1.blk0 q o hq hn ht)⟩
  · exact row_get hrow bs.length (by simp)
  · simp [World.frozen?, hrow]
set_option maxRecDepth 20000 in
set_option maxHeartbeats 4000000 in
theorem los_sx {w : World} {ad : List Nat} {σ : St} {g : Nat} {vals : List Value} {ts : List TR} {tys : List Ty} (hrow : TRow w g vals) (hrv : RVs ad ts vals) (hs : SX w ad σ) (hl : tys.length = ts.length) (hm : ts.length ≤ 1000000) (hdn : ∀ j (h : j < ts.length) (h2 : j < tys.length), Dn σ ts[j] tys[j] ∧ sz tys[j] ≤ 260 ∧ ∀ n, n ∈ varsM tys[j] [] → ∃ nm s, σ[n]? = some ⟨.vr nm true, s⟩) :
    Calls Tryz.prog 193 #[.slice (some ⟨g, 0, none⟩) ts.length ts.length] w fun e w' => ∃ tb bs, e = .returned (.slice (some ⟨tb, 0, none⟩) ts.length ts.length) ∧ bs.length = ts.length ∧ w.heap.size ≤ tb ∧ LSI w ad σ tb ts.length tys bs w' := by
  have hmk := run_make_row' (P := Tryz.prog) 335 120 (.pointer none) 8 Tryz.underlying335 Tryz.infoTTP rfl .i64 .i64 ts.length (by omega) (by omega) w
  have hst := store_fn
  have hk0 : Kept w (w.alloc (.cells (madeCells #[.pointer none] ts.length) 120)) := Kept.alloc _ _
  have hb0 := heap_alloc_new w (.cells (madeCells #[.pointer none] ts.length) 120)
  rw [made_repP] at hmk hk0 hb0
  generalize w.alloc (.cells (List.replicate ts.length (Value.pointer none)).toArray 120) = W at *
  generalize hk : ts.length = k at hmk hk0 hb0 hm hl ⊢
  have HD : Hid _ := hdn
  have HRW : Hid _ := hrow
  have HRV : Hid _ := hrv
  have HLK : Hid (ts.length = k ∧ tys.length = k) := ⟨hk, hl⟩
  have HS0 : Hid _ := hs
  clear hdn hrow hrv hk hl hs
  go_enter Tryz.func193, Tryz.ntmps193
  go_wp2_with fail
  refine Calls.mono (pnio_any _) ?_
  rintro e w1 ⟨nb0, mb0, rfl, _, _, h3, _⟩
  have hk1 : Kept W w1 := Kept.of0 h3
  have hk2 : Kept w1 (w1.alloc (.cells #[.func (.func 57) #[] #[.pointer (some ⟨nb0, 0, none⟩)]] 81)) := Kept.alloc _ _
  have HI : Hid (LSI w ad σ w.heap.size k tys [] (w1.alloc (.cells #[.func (.func 57) #[] #[.pointer (some ⟨nb0, 0, none⟩)]] 81))) := by
    have hkk := (hk0.trans hk1).trans hk2
    exact ⟨by simpa using (hk1.trans hk2).blk hb0, fun j h => by simp at h, SX.kept HS0.out hkk, Kt.of_kept hkk⟩
  clear hk1 h3 hmk hk0 hb0
  go_wp2_with fail
  generalize w1.alloc (.cells #[.func (.func 57) #[] #[.pointer (some ⟨nb0, 0, none⟩)]] 81) = V at *
  generalize w1.heap.size = ob at *
  clear hk2
  go_loopw [14] (fun i wr => ∃ bs : List Nat, bs.length ≤ k ∧ i = .int .i64 bs.length ∧ Hid (LSI w ad σ w.heap.size k tys bs wr)) (fun i _ => k - (intOf i).toNat)
  case atStart => exact ⟨[], Nat.zero_le _, rfl, HI⟩
  case round =>
    obtain ⟨bs, hbs, rfl, HJ⟩ := hrel
    by_cases hlt : bs.length < k
    · have hlt1 : bs.length < ts.length := by rw [HLK.out.1]; exact hlt
      have hlt2 : bs.length < tys.length := by rw [HLK.out.2]; exact hlt
      have hlv : bs.length < vals.length := by rw [HRV.out.1]; exact hlt1
      have hrw : TRow wr g vals := HJ.out.kt.blk g _ HRW.out id not_tbi
      have cx := hrw.cell bs.length hlv
      have hvj := HRV.out.2 bs.length hlt1 hlv
      obtain ⟨hdn, hsz, hgen⟩ := HD.out bs.length hlt1 hlt2
      have HV : Hid _ := hvj
      have HDN : Hid (Dn σ ts[bs.length] tys[bs.length] ∧ sz tys[bs.length] ≤ 260 ∧ ∀ n, n ∈ varsM tys[bs.length] [] → ∃ nm s, σ[n]? = some ⟨.vr nm true, s⟩) := ⟨hdn, hsz, hgen⟩
      obtain ⟨Tx, ux, hxe⟩ := hvj.iface
      rw [hxe] at cx HV
      have HS : Hid (∀ (w2 w3 : World) (mb b pm : Nat) (fv : Value) (sp : List Sp), Kept wr w2 → wr.heap.size ≤ mb → Kt ad (· = mb) w2 w3 → TL w3 w2.heap.size b pm fv sp → decS sp = canT tys[bs.length] → SX w3 ad σ → LSI w ad σ w.heap.size k tys (bs ++ [b]) (w3.setCell ⟨w.heap.size, bs.length, none⟩ (ptrV b)) ∧ w3.cell? ⟨w.heap.size, bs.length, none⟩ = some (.pointer none) ∧ w3.frozen? ⟨w.heap.size, bs.length, none⟩ = false) := fun w2 w3 mb b pm fv sp h1 h2 h3 h4 h5 h6 => HJ.out.step (Nat.le_refl _) hlt h1 h2 h3 h4 (fun _ => h5) h6
      have HSX : Hid _ := HJ.out.sx
      clear hrw hvj hdn hsz hgen hxe HJ HI HD HRW HRV HS0 hlv
      go_wp2_with fail
      refine Calls.mono (pnio_any _) ?_
      rintro e w2 ⟨nb, mb, rfl, g1, g2, g3, g4⟩
      have hk2 : Kept wr w2 := Kept.of0 g3
      have hk3 : Kept w2 (w2.alloc (.cells #[.func (.func 57) #[] #[.pointer (some ⟨nb, 0, none⟩)]] 81)) := Kept.alloc _ _
      have hgb := heap_alloc_new w2 (.cells #[.func (.func 57) #[] #[.pointer (some ⟨nb, 0, none⟩)]] 81)
      have hnb := hk3.blk g1
      have hmb := hk3.blk g2.mp
      clear g1 g2 g3
      go_wp2_with fail
      generalize w2.alloc (.cells #[.func (.func 57) #[] #[.pointer (some ⟨nb, 0, none⟩)]] 81) = V2 at *
      generalize w2.heap.size = gb at *
      have hkk := hk2.trans hk3
      refine Calls.mono (lay_los V2 nb mb gb ob ad σ _ _ _ (SX.kept HSX.out hkk) HV.out HDN.out.1 HDN.out.2.1 hnb (by simpa [nFrom] using hmb) hgb HDN.out.2.2) ?_
      rintro e w3 ⟨b, pm, sp, rfl, hT, hdx, hs3, hkt⟩
      obtain ⟨hN, c3, f3⟩ := HS.out V2 w3 mb b pm _ sp hkk g4 hkt hT hdx hs3
      have HN : Hid _ := hN
      clear hN hT hdx hs3 hkt HS hkk hk2 hk3 hgb hnb hmb HDN HV HSX cx
      go_wp2
      go_roundw
      case measure => simp [intOf]; omega
      case rel => exact ⟨bs ++ [b], by simp; omega, by simp, HN.out⟩
    · obtain hbe : bs.length = k := by omega
      have HF : Hid _ := HJ.out
      clear HJ HI HD HRW HRV HS0
      go_wp2
      go_ret
      exact ⟨_, bs, rfl, hbe, Nat.le_refl _, HF.out⟩
/-- how long the first texts are, in all. -/
def sumS (tys : List Ty) (j : Nat) : Nat := ((tys.take j).map fun t => (canT t).size).sum
theorem sumS_succ {tys : List Ty} {j : Nat} (h : j < tys.length) : sumS tys (j + 1) = sumS tys j + (canT tys[j]).size := by
  unfold sumS
  rw [List.take_succ_eq_append_getElem h, List.map_append, List.sum_append]
  simp
theorem sumS_le {tys : List Ty} (hs : ∀ t, t ∈ tys → (canT t).size ≤ 100000) : ∀ j, sumS tys j ≤ 100000 * j
  | 0 => by simp [sumS]
  | j + 1 => by
    by_cases h : j < tys.length
    · rw [sumS_succ h]
      have := sumS_le hs j
      have := hs _ (List.getElem_mem h)
      omega
    · have e : sumS tys (j + 1) = sumS tys j := by
        unfold sumS
        rw [List.take_of_length_le (by omega), List.take_of_length_le (by omega)]
      have := sumS_le hs j
      omega
theorem LSI.cell {w : World} {ad : List Nat} {σ : St} {tb k : Nat} {tys : List Ty} {bs : List Nat} {wr : World} (h : LSI w ad σ tb k tys bs wr) (j : Nat) (hj : j < bs.length) : wr.cell? ⟨tb, j, none⟩ = some (ptrV bs[j]) := by
  have hr := h.row
  simp only [World.cell?, hr]
  simp [List.getElem?_append, hj]
set_option maxRecDepth 20000 in
set_option maxHeartbeats 1000000 in
theorem atl_sx {w wq : World} {ad : List Nat} {σ : St} {tb k : Nat} {tys : List Ty} {bs : List Nat} (h : LSI w ad σ tb k tys bs wq) (hb : bs.length = k) (hl : tys.length = k) (hk : k ≤ 1000) (hs : ∀ t, t ∈ tys → (canT t).size ≤ 100000) :
    Calls Tryz.prog 194 #[.slice (some ⟨tb, 0, none⟩) k k] wq fun e w' => e = .returned (.bool false) ∧ w' = wq := by
  have HH : Hid _ := h
  have HL : Hid (bs.length = k ∧ tys.length = k) := ⟨hb, hl⟩
  have HS : Hid _ := hs
  clear h hb hl hs
  go_enter Tryz.func194, Tryz.ntmps194
  go_wp2_with fail
  go_loopw [3, 8] (fun s i w2 => ∃ j : Nat, j ≤ k ∧ i = .int .i64 j ∧ s = .int .i64 (sumS tys j) ∧ w2 = wq) (fun _ i _ => k - (intOf i).toNat)
  case atStart => exact ⟨0, Nat.zero_le _, rfl, rfl, rfl⟩
  case round =>
    obtain ⟨j, hj, rfl, rfl, hw⟩ := hrel
    rw [hw]
    clear hw
    have hsum := sumS_le HS.out j
    by_cases hlt : j < k
    · have hjb : j < bs.length := by rw [HL.out.1]; exact hlt
      have hjt : j < tys.length := by rw [HL.out.2]; exact hlt
      have cx : wq.cell? ⟨tb, j, none⟩ = some (.pointer (some ⟨bs[j], 0, none⟩)) := HH.out.cell j hjb
      obtain ⟨B, pm, fv, sp, hT, hd, _⟩ := HH.out.tls j hjb hjt
      have cl : wq.cell? ⟨bs[j], 2, none⟩ = some (.int .i64 (canT tys[j]).size) := by rw [← hd]; exact hT.c.2.1
      have HE : Hid _ := sumS_succ hjt
      have hsz := HS.out _ (List.getElem_mem hjt)
      generalize bs[j] = b at *
      generalize tys[j] = t at *
      generalize sumS tys j = s at *
      clear hT hd
      go_wp2
      go_roundw
      case measure => simp [intOf]; omega
      case rel => exact ⟨j + 1, hlt, by go_num, by rw [HE.out]; go_num, trivial⟩
    · obtain rfl : j = k := by omega
      go_wp2
      go_ret
      exact ⟨congrArg (fun b => Ending.returned (.bool b)) (decide_eq_false (by omega)), rfl⟩
end Go.Proofs.YtleenphlgbklmabGreatDoor
