import Derived.Test.YtleenphlgbklmabGreatDoorZPGs
import Derived.Test.YtleenphlgbklmabGreatDoorZPHd
import Derived.Test.YtleenphlgbklmabGreatDoorZPHa
import Derived.Test.YtleenphlgbklmabGreatDoorZTGood
import Derived.Test.YtleenphlgbklmabGreatDoorZFault
import Derived.Test.YtleenphlgbklmabGreatDoorZWDeep
set_option linter.unusedVariables false
set_option linter.unusedSimpArgs false
namespace Go.Proofs.YtleenphlgbklmabGreatDoor
open Go.RowKit

theorem add_none (g q : Nat) : ((⟨g, 0, none⟩ : Addr).add q) = ⟨g, q, none⟩ := by unfold Addr.add; split <;> simp_all
theorem Kt.keptBy {w w2 wr : World} {S : Nat → Prop} (h : Kept w w2) (k : Kt [] S w2 wr) (hS : ∀ q, S q → w.heap.size ≤ q) : Kept w wr := ⟨k.os.trans h.os, k.output.trans h.output, Nat.le_trans h.size k.size, fun q hq => by
  have e : w2.heap[q]? = some (w2.heap[q]'(Nat.lt_of_lt_of_le hq h.size)) := by simp
  rw [← h.block q hq, e]
  exact k.blk0 q _ e (fun z => by have := hS q z; omega) (by simp)⟩
/-- blocks that are new are no part of what was kept. -/
theorem Kt.fresh {w wr wx : World} {ad : List Nat} {S : Nat → Prop} (h : Kt [] S w wr) (k : Kt ad (fun _ => False) wr wx) (ha : ∀ q, q ∈ ad → w.heap.size ≤ q) : Kt [] S w wx := ⟨k.os.trans h.os, k.output.trans h.output, Nat.le_trans h.size k.size, fun q o hq hs ht => k.blk0 q o (h.blk0 q o hq hs ht) id (fun _ z => by have := ha q z; have := lt_of_block hq; omega)⟩
set_option maxRecDepth 20000 in
set_option maxHeartbeats 4000000 in
theorem given_sx {A : Nat → Addr} {w : World} {em : Nat} {kv kvs : List (ByteArray × ByteArray)} {gv : Gv} {σ : St} (hG : Glb A w) (hS : SM w em kv) (hl : kv.length ≤ 1000) (hsz : ∀ y, y ∈ kv → y.1.size ≤ 1000) (hp : kvs.Perm kv) (hso : (kvs.map fun y => y.1.data.toList).Pairwise (fun x y => decide (x ≤ y) = true)) (h : gvF kvs [] [] = some (gv, σ)) :
    Calls Tryz.prog 71 #[.map (some em)] w fun e w' => ∃ gm ad, e = .returned (.tuple #[.agg #[.pointer none, .map (some gm)], .nilIface]) ∧ SX w' ad σ ∧ AR σ ∧ GM w' gm ad gv ∧ (∀ a, a ∈ ad → w.heap.size ≤ a) ∧ Kept w w' := by
  have m1 := Tryz.mkG (w.alloc (.cells #[.pointer none, .map none] 168))
  have hk0 : Kept w ((w.alloc (.cells #[.pointer none, .map none] 168)).alloc (.map #[] 0)) := (Kept.alloc _ _).trans (Kept.alloc _ _)
  have hb0 : ((w.alloc (.cells #[.pointer none, .map none] 168)).alloc (.map #[] 0)).heap[w.heap.size]? = some (.cells #[.pointer none, .map none] 168 (0, 0)) := (Kept.alloc _ _).blk (heap_alloc_new _ _)
  have hg0 := GM.none (w.alloc (.cells #[.pointer none, .map none] 168)) []
  have hz0 : (w.alloc (.cells #[.pointer none, .map none] 168)).heap.size = w.heap.size + 1 := by simp
  rw [hz0] at hg0 m1
  go_enter Tryz.func71, Tryz.ntmps71
  go_wp2_with fail
  clear m1 hz0
  generalize (w.alloc (.cells #[.pointer none, .map none] 168)).alloc (.map #[] 0) = W at *
  have hS0 : SM W em kv := ⟨hk0.blk hS.mp, hS.nd⟩
  have HK : Hid _ := keys_any (some em) W
  have HSO : Hid _ := sorted_some hS0 hl (fun y hy => by have := hsz y hy; unfold maxLen; omega)
  have HG0 : Hid _ := hg0
  have HK0 : Hid _ := hk0
  have HB0 : Hid _ := hb0
  clear hg0 hk0 hb0
  refine Calls.mono HK.out ?_
  rintro e w2 ⟨rfl, hw2⟩
  rw [hw2]
  clear HK hw2 w2
  go_wp2_with fail
  refine Calls.mono HSO.out ?_
  rintro e w2 ⟨v, sk, rfl, hpp, hpo, hrow, hk2⟩
  have hk2 : Kept W w2 := (Kept.alloc _ _).trans hk2
  have hsk : sk = kvs.map fun y => y.1.data.toList := perm_sorted_eq (hpp.trans ((hp.map _).symm)) hpo hso
  subst hsk
  obtain ⟨ao, cap, rfl⟩ : ∃ ao cap, v = .slice ao kvs.length cap := by
    rcases hrow.2 with ⟨rfl, q⟩ | ⟨g, cap, cur, rfl, _⟩
    · exact ⟨none, 0, by rw [List.length_map] at q; rw [q]⟩
    · exact ⟨_, _, by rw [List.length_map]⟩
  obtain ⟨g, HR⟩ : ∃ g, Hid (∀ (q : Nat) (y : ByteArray × ByteArray), kvs[q]? = some y → ao = some ⟨g, 0, none⟩ ∧ ∃ cs, w2.heap[g]? = some (.cells cs 9 (0, 0)) ∧ cs[q]? = some (.string y.1)) := by
    rcases hrow.2 with ⟨e1, e2⟩ | ⟨g, cap', cur, e1, _, hg, hcs⟩
    · refine ⟨0, fun q x hx => ?_⟩
      have := (List.getElem?_eq_some_iff.1 hx).1
      rw [List.length_map] at e2
      omega
    · simp only [Value.slice.injEq] at e1
      refine ⟨g, fun q y hy => ⟨e1.1, _, hg, ?_⟩⟩
      have h1 := World.ownsRow.cells hrow (g := g) (by rw [e1.1]; rfl) q (encStr y.1.data.toList) (by rw [List.getElem?_map, List.getElem?_map, hy]; rfl)
      rw [add_none] at h1
      simp only [World.cell?, hg] at h1
      have e4 : encStr y.1.data.toList = .string y.1 := by
        show Value.string ⟨y.1.data.toList.toArray⟩ = _
        rw [Array.toArray_toList]
      rw [e4] at h1
      exact h1
  have hkl : kvs.length ≤ 1000 := by rw [hp.length_eq]; exact hl
  have HH : Hid _ := h
  have HP : Hid _ := hp
  have HSM : Hid _ := (⟨hk2.blk hS0.mp, hS0.nd⟩ : SM w2 em kv)
  have HEM : Hid (¬ em = w.heap.size + 1) := fun z => by have := lt_of_block hS.mp; omega
  have HG3 : Hid _ := GM.kt HG0.out (Kt.of_kept (ad := []) (S := fun _ => False) hk2) id
  have HG2 : Hid _ := GM.kt HG0.out (Kt.of_kept (ad := []) (S := fun _ => False) hk2) id
  have HKW : Hid _ := HK0.out.trans hk2
  have HB2 : Hid _ := hk2.blk HB0.out
  have HGL : Hid _ := hG
  have HSZ : Hid _ := hsz
  have HWZ : Hid _ := hk2.size
  have HWS : Hid (w.heap.size < W.heap.size) := lt_of_block HB0.out
  clear hrow hpp hpo hso hk2 hS0 hS h hp HSO HG0 HK0 HB0 hG hsz hl
  go_wp2_with fail
  go_loopw [14] (fun i wr => ∃ (q : Nat) (gq : Gv) (σq : St) (adq : List Nat), q ≤ kvs.length ∧ i = .int .i64 q ∧ Hid (gvF (kvs.drop q) gq σq = some (gv, σ)) ∧ Hid (SX wr adq σq) ∧ Hid (AR σq) ∧ Hid (GM wr (w.heap.size + 1) adq gq) ∧ Hid (∀ a, a ∈ adq → w2.heap.size ≤ a) ∧ Hid (Kt [] (fun q => q = w.heap.size + 1) w2 wr)) (fun i _ => kvs.length - (intOf i).toNat)
  case atStart => exact ⟨0, [], [], [], Nat.zero_le _, rfl, HH.out, SW.sx ⟨rfl, List.nodup_nil, fun i nk s b hi => by simp at hi⟩, fun i nd hi => by simp at hi, HG2.out, by intro a ha; simp at ha, Kt.refl _ _ _⟩
  case round =>
    clear HH HG2
    obtain ⟨q, gq, σq, adq, hq, rfl, HV, HX, HAR, HGM, HAD, HKT⟩ := hrel
    by_cases hlt : q < kvs.length
    · obtain ⟨⟨n, ty⟩, hy⟩ : ∃ y, kvs[q]? = some y := ⟨kvs[q], by simp [hlt]⟩
      obtain ⟨rfl, cs, hg, hcq⟩ := HR.out q _ hy
      have hdr : kvs.drop q = (n, ty) :: kvs.drop (q + 1) := by
        rw [List.drop_eq_getElem_cons hlt]
        congr 1
        rw [List.getElem?_eq_getElem hlt] at hy
        simpa using hy
      have hmem : (n, ty) ∈ kv := HP.out.mem_iff.1 (List.mem_of_getElem? hy)
      have hv := HV.out
      rw [hdr] at hv
      simp only [gvF] at hv
      split at hv
      · rename_i hnm
        simp only [Bool.and_eq_true, Option.isNone_iff_eq_none] at hnm
        split at hv
        · rename_i t names hrd
          simp only [Option.bind_eq_some_iff] at hv
          obtain ⟨σ2, hgen, hv⟩ := hv
          have hgg : ¬ g = w.heap.size + 1 := fun z => by
            obtain ⟨l, hl1, _⟩ := HG3.out
            rw [← z, hg] at hl1
            cases hl1
          have hgr := HKT.out.blk g _ hg hgg (by
            rintro ⟨cs', e, f, he, ht⟩
            simp only [Obj.cells.injEq] at he
            obtain ⟨_, rfl, _⟩ := he
            rcases ht with e | e | e | e <;> cases e)
          have hc : wr.cell? ⟨g, q, none⟩ = some (.string n) := by simp [World.cell?, hgr, hcq]
          have HN : Hid _ := isname_any n wr (by have := HSZ.out _ hmem; simp at this; omega)
          rw [hnm.1] at HN
          have hSM : SM wr em kv := ⟨HKT.out.blk em _ HSM.out.mp HEM.out (by rintro ⟨cs', e, f, he, _⟩; cases he), HSM.out.nd⟩
          have hlk := hSM.at hmem
          have hfl := Tryz.fldT ty wr
          have hkw : Kept w wr := Kt.keptBy HKW.out HKT.out (fun q z => by have z : q = w.heap.size + 1 := z; omega)
          have HPT : Hid _ := rd_good hrd wr (HGL.out.kept hkw)
          clear hSM hgr hcq hg hrd hdr hmem hy
          go_wp2_with fail
          refine Calls.mono HN.out ?_
          rintro e w' ⟨rfl, hww⟩
          rw [hww]
          clear hww w' HN
          go_wp2_with fail
          refine Calls.mono HPT.out ?_
          rintro e w3 ⟨hk3, T, u, vb, rfl, hPT, hvd, hNB, hvl⟩
          obtain ⟨ua, hs3, hr3, hul⟩ := adopt_sx (SX.sw (SX.kept HX.out hk3) HAR.out) hPT hNB hvd hvl (fun c hc => SX.lt HX.out hc)
          have har : AR (addT σq.length t (σq ++ vrs names)).2 := hPT.ar _ _ (HAR.out.add (vrs_ar names))
          have m3 := Tryz.mkPS w3
          have hk4 : Kept w3 (w3.alloc (.map #[] 0)) := Kept.alloc _ _
          have HGE : Hid _ := gen_sx 500 _ _ _ _ hgen (w3.alloc (.map #[] 0)) (adq ++ ua) _ w3.heap.size (SX.kept hs3.sx hk4) hr3 (TMp.none w3 _)
          have HADU : Hid (∀ a, a ∈ adq ++ ua → w2.heap.size ≤ a) := fun a ha => by
            simp at ha
            rcases ha with ha | ha
            · exact HAD.out a ha
            · have := hul a ha
              have := HKT.out.size
              omega
          have HKT4 : Hid _ := Kt.fresh HKT.out (Kt.of_kept (ad := []) (S := fun _ => False) (hk3.trans hk4)) (by simp)
          have HGM4 : Hid _ := (GM.kt HGM.out (Kt.of_kept (ad := []) (S := fun _ => False) (hk3.trans hk4)) id).up ua
          have HR3 : Hid _ := hr3
          have HAR2 : Hid _ := AR.gen 500 har hgen
          have HV2 : Hid _ := hv
          have HNF : Hid _ := hnm.2
          clear hs3 hr3 hul har hk4 hPT hvd hNB hvl hgen hv hnm hk3 hkw HGM HKT HAD HAR HX HV HPT hlk hfl hc hgg
          go_wp2_with fail
          refine Calls.mono HGE.out ?_
          rintro e w5 ⟨rfl, hs5, hm5, hk5⟩
          obtain ⟨w6, hput, hgm6, hs6, hk6⟩ := put_gm hs5 (GM.kt HGM4.out hk5 id) HR3.out HNF.out
          have HS6 : Hid _ := hs6
          have HGM6 : Hid _ := hgm6
          have HK6 : Hid _ := (Kt.fresh HKT4.out hk5 HADU.out).trans hk6
          clear hs5 hm5 hk5 hgm6 hs6 hk6 HGE m3 HGM4 HKT4
          go_wp2
          go_roundw
          case measure => simp [intOf]; omega
          case rel => exact ⟨q + 1, _, σ2, adq ++ ua, hlt, by go_num, HV2.out, HS6.out, HAR2.out, HGM6.out, HADU.out, HK6.out⟩
        · simp at hv
      · simp at hv
    · have hqe : q = kvs.length := by omega
      have hv := HV.out
      rw [hqe, List.drop_length] at hv
      simp only [gvF, Option.some.injEq, Prod.mk.injEq] at hv
      obtain ⟨rfl, rfl⟩ := hv
      have hbr := HKT.out.blk w.heap.size _ HB2.out (by show ¬ w.heap.size = w.heap.size + 1; omega) (by
        rintro ⟨cs', e, f, he, ht⟩
        simp only [Obj.cells.injEq] at he
        obtain ⟨_, rfl, _⟩ := he
        rcases ht with e | e | e | e <;> cases e)
      have c0 : wr.cell? ⟨w.heap.size, 0, none⟩ = some (.pointer none) := by simp [World.cell?, hbr]
      have c1 : wr.cell? ⟨w.heap.size, 1, none⟩ = some (.map none) := by simp [World.cell?, hbr]
      have f0 : ∀ j, wr.frozen? ⟨w.heap.size, j, none⟩ = false := fun j => by simp [World.frozen?, hbr]
      have hkw : Kept w wr := Kt.keptBy HKW.out HKT.out (fun q z => by have z : q = w.heap.size + 1 := z; omega)
      clear HV HSM HP HR HB2
      go_wp2_with fail
      obtain ⟨w5, hw5⟩ : ∃ w5, w5 = (wr.setCell ⟨w.heap.size, 0, none⟩ (.pointer none)).setCell ⟨w.heap.size, 1, none⟩ (.map (some (w.heap.size + 1))) := ⟨_, rfl⟩
      have hF : w5.heap[w.heap.size]? = some (.cells #[.pointer none, .map (some (w.heap.size + 1))] 168 (0, 0)) := by
        rw [hw5]
        simp [World.setCell, hbr, Array.getElem?_modify]
      have ho : ∀ k, k ≠ w.heap.size → w5.heap[k]? = wr.heap[k]? := fun k hk => by
        rw [hw5]
        exact (Below.heap_setCell _ _ _ k (fun z => hk z)).trans (Below.heap_setCell _ _ _ k (fun z => hk z))
      have hK5 : Kept w w5 := ⟨by rw [hw5]; exact hkw.os, by rw [hw5]; exact hkw.output, by rw [hw5]; simpa using hkw.size, fun k hk => (ho k (by omega)).trans (hkw.block k hk)⟩
      have hS5 : SX w5 adq σq := SX.keep HX.out (fun b o hb hbo => (ho b (by have := HAD.out b hb; have := HWZ.out; have := HWS.out; omega)).trans hbo)
      have hG5 : GM w5 (w.heap.size + 1) adq gq := by
        obtain ⟨l, hl1, hl2⟩ := HGM.out
        exact ⟨l, (ho _ (by omega)).trans hl1, hl2⟩
      rw [← hw5]
      clear hw5
      have d0 : w5.cell? ⟨w.heap.size, 0, none⟩ = some (.pointer none) := by simp [World.cell?, hF]
      have d1 : w5.cell? ⟨w.heap.size, 1, none⟩ = some (.map (some (w.heap.size + 1))) := by simp [World.cell?, hF]
      exact bodyPost_ret (v := .tuple #[.agg #[.pointer none, .map (some (w.heap.size + 1))], .nilIface]) (by simp [results, Tryz.results71, go_sem, d0, d1]) rfl ⟨_, adq, rfl, hS5, HAR.out, hG5, fun a ha => by have := HAD.out a ha; have := HKW.out.size; omega, hK5⟩
end Go.Proofs.YtleenphlgbklmabGreatDoor

namespace Go.Proofs.YtleenphlgbklmabGreatDoor
open Go.RowKit

theorem Tryz.eqSN (g k : Nat) (w : World) : (binOp .eql 26 (.slice (some ⟨g, 0, none⟩) k k) (.slice none 0 0)).run Tryz.prog w = .ok (.bool false) w := by kernel_rfl
theorem Tryz.infoSt : (Tryz.prog.info? 9).map (fun i => (i.zero, i.size, i.bytes)) = some (some (.string { data := #[] }), 1, 16) := by kernel_rfl
/-- a row of texts. -/
def SRw (w : World) (g : Nat) (l : List ByteArray) : Prop := ∃ cs, w.heap[g]? = some (.cells cs 9 (0, 0)) ∧ ∀ j (h : j < l.length), cs[j]? = some (.string l[j])
theorem SRw.cell {w : World} {g : Nat} {l : List ByteArray} (h : SRw w g l) (j : Nat) (hj : j < l.length) : w.cell? ⟨g, j, none⟩ = some (.string l[j]) := by
  obtain ⟨cs, h1, h2⟩ := h
  simp [World.cell?, h1, h2 j hj]
theorem SRw.kept {w w' : World} {g : Nat} {l : List ByteArray} (h : SRw w g l) (k : Kept w w') : SRw w' g l := by
  obtain ⟨cs, h1, h2⟩ := h
  exact ⟨cs, k.blk h1, h2⟩
theorem SRw.of_own {w : World} {B g cap : Nat} {l : List ByteArray} (h : w.ownsRow B 9 1 (.slice (some ⟨g, 0, none⟩) l.length cap) l.length (l.map Value.string)) (hl : l ≠ []) : SRw w g l := by
  have h' : w.ownsRow 0 9 1 (.slice (some ⟨g, 0, none⟩) l.length cap) (l.map Value.string).length (l.map Value.string) := by
    rw [List.length_map]
    exact ownsRow_base h (Nat.zero_le _)
  obtain ⟨g2, cap2, cur, e, hb, hc⟩ := row_blk h' (by simpa using hl)
  simp only [Value.slice.injEq, Option.some.injEq, Addr.mk.injEq, and_true] at e
  obtain ⟨rfl, _⟩ := e
  exact ⟨cur, hb, fun j hj => by have := hc j (by simpa using hj); simpa using this⟩
set_option maxRecDepth 20000 in
set_option maxHeartbeats 1000000 in
theorem clone_any {w : World} {g : Nat} {l : List ByteArray} (hr : SRw w g l) (hl : l ≠ []) (hm : l.length ≤ 1000) : Calls Tryz.prog 29 #[.slice (some ⟨g, 0, none⟩) l.length l.length] w fun e w' => ∃ g' cap, e = .returned (.slice (some ⟨g', 0, none⟩) l.length cap) ∧ w.heap.size ≤ g' ∧ SRw w' g' l ∧ Kept w w' := by
  have h1 := Tryz.eqSN g l.length
  obtain ⟨i0, hi, hij⟩ := Option.map_eq_some_iff.1 Tryz.infoSt
  obtain ⟨hz0, hz1, hz2⟩ : i0.zero = some (.string { data := #[] }) ∧ i0.size = 1 ∧ i0.bytes = 16 := by
    have := hij
    simp only [Prod.mk.injEq] at this
    exact this
  have hk0 : Kept w (w.alloc (.cells #[] 9)) := Kept.alloc _ _
  have hb0 := heap_alloc_new w (.cells #[] 9)
  have ho : (w.alloc (.cells #[] 9)).ownsRow w.heap.size 9 1 (.slice (some ⟨w.heap.size, 0, none⟩) 0 0) 0 [] := ⟨rfl, .inr ⟨w.heap.size, 0, #[], rfl, Nat.le_refl _, hb0, Nat.le_refl _, by unfold maxLen; omega, rfl, rfl⟩⟩
  have h0 : 0 < l.length := List.length_pos_iff.2 hl
  have HR : Hid (SRw (w.alloc (.cells #[] 9)) g l) := hr.kept hk0
  have HL : Hid (l ≠ []) := hl
  have HK0 : Hid _ := hk0
  have hs0 : (w.alloc (.cells #[] 9)).heap.size = w.heap.size + 1 := by simp
  clear hr hl hij hb0 hk0
  go_enter Tryz.func29, Tryz.ntmps29
  go_wp2_with (at_builtin; refine wpList_append_own2 _ rfl (.tmp 5) (.tmp 6) 26 rfl w.heap.size 9 i0 (.string { data := #[] }) 1 16 Tryz.underlying26 hi hz0 hz1 hz2 rfl (by decide) _ _ _ rfl ho ⟨g, 0, none⟩ l.length l.length (l.map Value.string) rfl ?c0 ?c1 ?c2 ?c3 ?c4 ?c5 h0 ?_)
  case c0 => simp
  case c1 =>
    intro j u hj
    rw [add_none]
    rw [List.getElem?_map] at hj
    obtain ⟨x, hx, rfl⟩ := Option.map_eq_some_iff.1 hj
    obtain ⟨hlt, rfl⟩ := List.getElem?_eq_some_iff.1 hx
    exact SRw.cell HR.out j hlt
  case c2 =>
    intro u hu
    obtain ⟨x, _, rfl⟩ := List.mem_map.1 hu
    rfl
  case c3 => unfold maxLen; omega
  case c4 => omega
  case c5 => simp
  intro g2 c2 w2 hown2 hgrow2 hfr2
  have hown3 : w2.ownsRow w.heap.size 9 1 (.slice (some ⟨g2, 0, none⟩) l.length c2) l.length (l.map Value.string) := by simpa using hown2
  have HF : Hid (w.heap.size ≤ g2 ∧ SRw w2 g2 l ∧ Kept w w2) := ⟨(hown3.lt g2 rfl).1, SRw.of_own hown3 HL.out, ⟨hgrow2.os.trans HK0.out.os, hgrow2.output.trans HK0.out.output, Nat.le_trans HK0.out.size hgrow2.size, fun q hq => (hgrow2.block q (by omega) (fun z => by have z : some q = some w.heap.size := z; simp at z; omega)).trans (HK0.out.block q hq)⟩⟩
  clear hown2 hown3 hgrow2 hfr2 HR ho HK0 HL hi
  go_wp2
  go_ret
  exact ⟨g2, c2, rfl, HF.out⟩
end Go.Proofs.YtleenphlgbklmabGreatDoor

namespace Go.Proofs.YtleenphlgbklmabGreatDoor
open Go.RowKit

/-- a round that was told: the names, its number, the texts. -/
abbrev Rdt := List ByteArray × Nat × List ByteArray
abbrev Rpt := Nat × Nat × Nat × Nat
def rdV (r : Rdt) (p : Rpt) : List Value := [.slice (some ⟨p.1, 0, none⟩) r.1.length p.2.1, .int .i64 r.2.1, .slice (some ⟨p.2.2.1, 0, none⟩) r.2.2.length p.2.2.2]
def rdCs : List Rdt → List Rpt → List Value
  | r :: o, p :: ps => rdV r p ++ rdCs o ps
  | _, _ => []
theorem rdCs_snoc (r : Rdt) (p : Rpt) : ∀ (o : List Rdt) (ps : List Rpt), ps.length = o.length → rdCs (o ++ [r]) (ps ++ [p]) = rdCs o ps ++ rdV r p
  | [], [], _ => by simp [rdCs]
  | x :: o, q :: ps, h => by
    simp only [List.cons_append, rdCs, List.append_assoc]
    rw [rdCs_snoc r p o ps (by simpa using h)]
  | [], _ :: _, h => by simp at h
  | _ :: _, [], h => by simp at h
def wtC (rv : Value) : Array Value := #[rv, .string { data := #[] }, .int .i64 0, .int .i64 0, .string { data := #[] }, .int .i64 0, .int .i64 0, .bool false, .slice none 0 0, .slice none 0 0]
/-- what the watcher of plain.Watch has been told. -/
structure WKP (P : Nat → Prop) (B wb ob sb stop : Nat) (w : World) (o : List Rdt) : Prop where
  hB : B ≤ wb
  cs : ∃ rv ps, ps.length = o.length ∧ w.heap[wb]? = some (.cells (wtC rv) 36 (0, 0)) ∧ w.ownsRow B 39 3 rv o.length (rdCs o ps) ∧ ∀ j (h : j < o.length) (h2 : j < ps.length), SRw w ps[j].1 o[j].1 ∧ SRw w ps[j].2.2.1 o[j].2.2 ∧ P ps[j].1 ∧ P ps[j].2.2.1
  oc : w.heap[ob]? = some (.cells #[.string { data := #[] }] 9 (0, 0))
  sc : w.heap[sb]? = some (.cells #[.int .i64 stop] 3 (0, 0))
  po : P ob ∧ P sb
abbrev WK := WKP (fun _ => True)
/-- all is as it was, but for the watcher's own blocks, and those of S. -/
structure Kdw (B : Nat) (S : Nat → Prop) (w w' : World) : Prop where
  os : w'.os = w.os
  output : w'.output = w.output
  size : w.heap.size ≤ w'.heap.size
  blk : ∀ (q : Nat) (o : Obj), w.heap[q]? = some o → ¬ S q → (WB o → q < B) → w'.heap[q]? = some o
theorem not_wbs {cs : Array Value} {f : Nat × Nat} : ¬ WB (.cells cs 9 f) := by
  rintro ⟨cs', e, f', he, ht⟩
  simp only [Obj.cells.injEq] at he
  obtain ⟨_, rfl, _⟩ := he
  rcases ht with e | e <;> cases e
theorem SRw.kd {B : Nat} {S : Nat → Prop} {w w' : World} {g : Nat} {l : List ByteArray} (h : SRw w g l) (k : Kdw B S w w') (hS : ¬ S g) : SRw w' g l := by
  obtain ⟨cs, h1, h2⟩ := h
  exact ⟨cs, k.blk g _ h1 hS (fun z => absurd z not_wbs), h2⟩
theorem own_blk {w : World} {B : Nat} {e : TypeId} {z n : Nat} {v : Value} {xs : List Value} (h : w.ownsRow B e z v n xs) {g : Nat} (hg : v.ownBlock = some g) : B ≤ g ∧ ∃ cs, w.heap[g]? = some (.cells cs e (0, 0)) := by
  rcases h.2 with ⟨rfl, _⟩ | ⟨g', cap, cur, rfl, h1, h2, _⟩
  · simp [Value.ownBlock] at hg
  · have : g' = g := by simpa [Value.ownBlock] using hg
    subst this
    exact ⟨h1, _, h2⟩
theorem wtC_set {W : World} {wb : Nat} {rv : Value} (h : W.heap[wb]? = some (.cells (wtC rv) 36 (0, 0))) (v : Value) : (W.setCell ⟨wb, 0, none⟩ v).heap[wb]? = some (.cells (wtC v) 36 (0, 0)) := by
  unfold wtC at *
  simp [World.setCell, h, Array.getElem?_modify]
/-- a round more is told. -/
theorem WKP.app {P : Nat → Prop} {B wb ob sb stop : Nat} {w u : World} {o : List Rdt} (hw : B ≤ w.heap.size) (h : WKP P B wb ob sb stop w o) (hk : Kept w u) {names texts : List ByteArray} {rd g1 c1 g2 c2 : Nat} (r1 : SRw u g1 names) (r2 : SRw u g2 texts) (hp1 : P g1) (hp2 : P g2) :
    ∃ rv xs, u.cell? ⟨wb, 0, none⟩ = some rv ∧ w.cell? ⟨wb, 0, none⟩ = some rv ∧ u.ownsRow B 39 3 rv o.length xs ∧ ∀ (gr cap : Nat) (w3 : World), w3.ownsRow B 39 3 (.slice (some ⟨gr, 0, none⟩) (o.length + 1) cap) (o.length + 1) (xs ++ [.slice (some ⟨g1, 0, none⟩) names.length c1, .int .i64 rd, .slice (some ⟨g2, 0, none⟩) texts.length c2]) →
      (u.alloc (.cells #[.slice (some ⟨g1, 0, none⟩) names.length c1, .int .i64 rd, .slice (some ⟨g2, 0, none⟩) texts.length c2] 39)).grownBy w3 rv.ownBlock →
      w3.cell? ⟨wb, 0, none⟩ = some rv ∧ w3.frozen? ⟨wb, 0, none⟩ = false ∧ WKP P B wb ob sb stop (w3.setCell ⟨wb, 0, none⟩ (.slice (some ⟨gr, 0, none⟩) (o.length + 1) cap)) (o ++ [(names, rd, texts)]) ∧ Kdw B (fun _ => False) w (w3.setCell ⟨wb, 0, none⟩ (.slice (some ⟨gr, 0, none⟩) (o.length + 1) cap)) ∧ w3.heap.size = (w3.setCell ⟨wb, 0, none⟩ (.slice (some ⟨gr, 0, none⟩) (o.length + 1) cap)).heap.size := by
  obtain ⟨hB, ⟨rv, ps, hl, hb, ho, hrs⟩, hoc, hsc, hpo⟩ := h
  have hbu := hk.blk hb
  have hou : u.ownsRow B 39 3 rv o.length (rdCs o ps) := ownsRow_same ho (fun k hk' => hk.block k (ho.lt k hk').2)
  have hcell : ∀ (W : World), W.heap[wb]? = some (.cells (wtC rv) 36 (0, 0)) → W.cell? ⟨wb, 0, none⟩ = some rv := fun W hW => by simp [World.cell?, hW, wtC]
  refine ⟨rv, rdCs o ps, hcell _ hbu, hcell _ hb, hou, fun gr cap w3 hown hgr => ?_⟩
  have hkz : Kept u (u.alloc (.cells #[.slice (some ⟨g1, 0, none⟩) names.length c1, .int .i64 rd, .slice (some ⟨g2, 0, none⟩) texts.length c2] 39)) := Kept.alloc _ _
  generalize u.alloc (.cells #[.slice (some ⟨g1, 0, none⟩) names.length c1, .int .i64 rd, .slice (some ⟨g2, 0, none⟩) texts.length c2] 39) = Z at *
  have hkw := hk.trans hkz
  have hne : rv.ownBlock ≠ some wb := fun z => by
    obtain ⟨_, cs, hc⟩ := own_blk hou z
    rw [hbu] at hc
    cases hc
  -- a block that lay in w, and is no row of rounds, is as it was
  have key : ∀ (q : Nat) (ob : Obj), w.heap[q]? = some ob → some q ≠ rv.ownBlock → w3.heap[q]? = some ob := fun q ob hq hn => (hgr.block q (Nat.lt_of_lt_of_le (lt_of_block hq) hkw.size) hn).trans (hkw.blk hq)
  have key2 : ∀ (q : Nat) (ob : Obj), u.heap[q]? = some ob → some q ≠ rv.ownBlock → w3.heap[q]? = some ob := fun q ob hq hn => (hgr.block q (Nat.lt_of_lt_of_le (lt_of_block hq) hkz.size) hn).trans (hkz.blk hq)
  have hb3 := key wb _ hb (fun z => hne z.symm)
  have hst : ∀ q, q ≠ wb → (w3.setCell ⟨wb, 0, none⟩ (.slice (some ⟨gr, 0, none⟩) (o.length + 1) cap)).heap[q]? = w3.heap[q]? := fun q hq => Below.heap_setCell _ _ _ q (fun z => hq z)
  have hgw : gr ≠ wb := fun z => by
    obtain ⟨_, cs, hc⟩ := own_blk hown (g := gr) rfl
    rw [z, hb3] at hc
    cases hc
  have notow : ∀ (q : Nat) (cs : Array Value), u.heap[q]? = some (.cells cs 9 (0, 0)) → some q ≠ rv.ownBlock := fun q cs hq z => by
    obtain ⟨_, cs', hc⟩ := own_blk hou z.symm
    rw [hq] at hc
    cases hc
  have srw : ∀ (g : Nat) (l : List ByteArray), SRw u g l → SRw (w3.setCell ⟨wb, 0, none⟩ (.slice (some ⟨gr, 0, none⟩) (o.length + 1) cap)) g l := fun g l ⟨cs, h1, h2⟩ => by
    refine ⟨cs, (hst g (fun z => ?_)).trans (key2 g _ h1 (notow g cs h1)), h2⟩
    rw [z, hbu] at h1
    cases h1
  refine ⟨hcell _ hb3, by simp [World.frozen?, hb3], ⟨hB, ⟨_, ps ++ [(g1, c1, g2, c2)], by simp [hl], wtC_set hb3 _, ?_, ?_⟩, ?_, ?_, hpo⟩, ⟨?_, ?_, ?_, ?_⟩, by simp⟩
  · rw [rdCs_snoc _ _ _ _ hl, List.length_append]
    refine ownsRow_same hown (fun k hk' => ?_)
    have : k = gr := by simpa [Value.ownBlock] using hk'.symm
    subst this
    exact hst k hgw
  · intro j hj h2
    by_cases hjo : j < o.length
    · rw [List.getElem_append_left (by omega : j < ps.length), List.getElem_append_left hjo]
      obtain ⟨a, b, c⟩ := hrs j hjo (by omega)
      exact ⟨srw _ _ (a.kept hk), srw _ _ (b.kept hk), c⟩
    · have hje : j = o.length := by simp at hj; omega
      subst hje
      rw [List.getElem_append_right (by omega), List.getElem_append_right (Nat.le_refl _)]
      simp only [hl, Nat.sub_self, List.getElem_cons_zero]
      exact ⟨srw _ _ r1, srw _ _ r2, hp1, hp2⟩
  · refine (hst ob (fun z => ?_)).trans (key ob _ hoc (fun z => notow ob _ (hk.blk hoc) z))
    rw [z, hb] at hoc
    cases hoc
  · refine (hst sb (fun z => ?_)).trans (key sb _ hsc (fun z => ?_))
    · rw [z, hb] at hsc
      cases hsc
    · obtain ⟨_, cs', hc⟩ := own_blk hou z.symm
      rw [hk.blk hsc] at hc
      cases hc
  · exact (hgr.os.trans hkw.os)
  · exact (hgr.output.trans hkw.output)
  · simpa using Nat.le_trans hkw.size hgr.size
  · intro q ob hq _ hwb
    have h1 : some q ≠ rv.ownBlock := fun z => by
      obtain ⟨hBq, cs', hc⟩ := own_blk ho z.symm
      have hc2 : ob = .cells cs' 39 (0, 0) := by rw [hq] at hc; simpa using hc
      have := hwb ⟨cs', _, _, hc2, .inl rfl⟩
      omega
    refine (hst q (fun z => ?_)).trans (key q ob hq h1)
    have hc2 : ob = .cells (wtC rv) 36 (0, 0) := by rw [z, hb] at hq; simpa using hq.symm
    have := hwb ⟨_, _, _, hc2, .inr rfl⟩
    omega
theorem SRw.lt {w : World} {g : Nat} {l : List ByteArray} (h : SRw w g l) : g < w.heap.size := by
  obtain ⟨cs, h1, _⟩ := h
  exact lt_of_block h1
theorem WKP.mono {P Q : Nat → Prop} {B wb ob sb stop : Nat} {w : World} {o : List Rdt} (h : WKP P B wb ob sb stop w o) (hPQ : ∀ q, q < w.heap.size → P q → Q q) : WKP Q B wb ob sb stop w o := by
  obtain ⟨hB, ⟨rv, ps, hl, hb, ho, hrs⟩, hoc, hsc, hpo⟩ := h
  refine ⟨hB, ⟨rv, ps, hl, hb, ho, fun j h1 h2 => ?_⟩, hoc, hsc, hPQ _ (lt_of_block hoc) hpo.1, hPQ _ (lt_of_block hsc) hpo.2⟩
  obtain ⟨a, b, c, d⟩ := hrs j h1 h2
  exact ⟨a, b, hPQ _ a.lt c, hPQ _ b.lt d⟩
/-- what is kept, is kept. -/
theorem WKP.keep {P : Nat → Prop} {B wb ob sb stop : Nat} {w w' : World} {o : List Rdt} (h : WKP P B wb ob sb stop w o) (hk : ∀ (q : Nat) (cs : Array Value) (t : TypeId), w.heap[q]? = some (.cells cs t (0, 0)) → (t = 9 → P q) → (t = 9 ∨ t = 3 ∨ t = 39 ∨ t = 36) → w'.heap[q]? = some (.cells cs t (0, 0))) : WKP P B wb ob sb stop w' o := by
  obtain ⟨hB, ⟨rv, ps, hl, hb, ho, hrs⟩, hoc, hsc, hpo⟩ := h
  refine ⟨hB, ⟨rv, ps, hl, hk _ _ _ hb (fun z => by cases z) (.inr (.inr (.inr rfl))), ownsRow_same ho (fun k hk' => ?_), fun j h1 h2 => ?_⟩, hk _ _ _ hoc (fun _ => hpo.1) (.inl rfl), hk _ _ _ hsc (fun z => by cases z) (.inr (.inl rfl)), hpo⟩
  · obtain ⟨_, cs, hc⟩ := own_blk ho hk'
    exact (hk _ _ _ hc (fun z => by cases z) (.inr (.inr (.inl rfl)))).trans hc.symm
  · obtain ⟨⟨cs, a1, a2⟩, ⟨ds, b1, b2⟩, c, d⟩ := hrs j h1 h2
    exact ⟨⟨cs, hk _ _ _ a1 (fun _ => c) (.inl rfl), a2⟩, ⟨ds, hk _ _ _ b1 (fun _ => d) (.inl rfl), b2⟩, c, d⟩
theorem WKP.set {P : Nat → Prop} {B wb ob sb stop g j : Nat} {w : World} {o : List Rdt} (h : WKP P B wb ob sb stop w o) {cs : Array Value} (hg : w.heap[g]? = some (.cells cs 9 (0, 0))) (hP : ¬ P g) (v : Value) : WKP P B wb ob sb stop (w.setCell ⟨g, j, none⟩ v) o :=
  h.keep (fun q cs' t hq hp _ => (Below.heap_setCell _ _ _ q (fun z => by
    have z : q = g := z
    subst z
    have ht : t = 9 := by rw [hg] at hq; simp at hq; exact hq.2.symm
    exact hP (hp ht))).trans hq)
theorem Kdw.set {B : Nat} {S : Nat → Prop} {w w' : World} (h : Kdw B S w w') {g : Nat} (hg : S g) (j : Nat) (v : Value) : Kdw B S w (w'.setCell ⟨g, j, none⟩ v) := ⟨h.os, h.output, by simpa using h.size, fun q o hq hs hb => (Below.heap_setCell _ _ _ q (fun z => hs (by rw [show q = g from z]; exact hg))).trans (h.blk q o hq hs hb)⟩
theorem Kdw.mono {B : Nat} {S T : Nat → Prop} {w w' : World} (h : Kdw B S w w') (hST : ∀ q, S q → T q) : Kdw B T w w' := ⟨h.os, h.output, h.size, fun q o hq hs hb => h.blk q o hq (fun z => hs (hST q z)) hb⟩
end Go.Proofs.YtleenphlgbklmabGreatDoor

namespace Go.Proofs.YtleenphlgbklmabGreatDoor
open Go.RowKit

theorem PAt.kp {w w' : World} {rb : Nat} {s : ByteArray} {L : List Tk} {k : Nat} (h : PAt w rb s L k) (hk : Kp (fun _ => False) w w') : PAt w' rb s L k := by
  obtain ⟨kd, h1, h2⟩ := h.ex
  exact ⟨⟨kd, hk.blk h1 (fun z => z), h2⟩, h.lt, h.nn⟩
section
variable {s : ByteArray} {L : List Tk} (hE : PEnv s wordsL L) {w : World} {rb k : Nat}
include hE
set_option maxRecDepth 20000 in
set_option maxHeartbeats 1000000 in
theorem patname (h : PAt w rb s L k) : Calls Tryz.prog 167 #[.agg #[.pointer (some ⟨rb, 0, none⟩)]] w fun e w' => e = .returned (.bool (isM L { data := #[110, 97, 109, 101] } k (-1))) ∧ Kp (fun _ => False) w w' := by
  have hk0 : Kp (fun _ => False) w (w.alloc (.cells #[.pointer (some ⟨rb, 0, none⟩)] 174)) := (Kp.refl _ _).alloc _
  have hc0 : (w.alloc (.cells #[.pointer (some ⟨rb, 0, none⟩)] 174)).heap[w.heap.size]? = some (.cells #[.pointer (some ⟨rb, 0, none⟩)] 174 (0, 0)) := heap_alloc_new _ _
  have h0 : PAt (w.alloc (.cells #[.pointer (some ⟨rb, 0, none⟩)] 174)) rb s L k := h.kp hk0
  have hrl := h.lt'
  generalize hw0 : w.alloc (.cells #[.pointer (some ⟨rb, 0, none⟩)] 174) = w0 at *
  have a0 : w0.cell? ⟨w.heap.size, 0, none⟩ = some (.pointer (some ⟨rb, 0, none⟩)) := by simp [World.cell?, hc0]
  obtain ⟨kd, hr, hT⟩ := h0.ex
  have hK := (tk_kind hE h.lt hT).1
  rw [isM_same]
  obtain ⟨_, c1, c2, c3⟩ := hr.c
  have HK : Hid _ := hK
  clear hK hr hT h h0 c2
  generalize (tkAt L k).s = t at *
  by_cases hkd : kd = 1
  · subst hkd
    go_enter Tryz.func167, Tryz.ntmps167
    go_wp2_with (go_at_call 139; refine (pkw_any _ _).mono ?_; rintro e w' ⟨rfl, rfl⟩)
    go_ret
    exact ⟨by rw [← HK.out]; rfl, hk0⟩
  · have hz : ((kd : Int) == 1) = false := by simp; omega
    have HZ : Hid ((kd == 1) = false) := by show _ = _; simp [hkd]
    clear hkd
    go_enter Tryz.func167, Tryz.ntmps167
    go_wp2_with (go_at_call 139; refine (pkw_any _ _).mono ?_; rintro e w' ⟨rfl, rfl⟩)
    go_ret
    exact ⟨by rw [← HK.out, HZ.out]; rfl, hk0⟩
set_option maxRecDepth 20000 in
set_option maxHeartbeats 1000000 in
theorem patatom (h : PAt w rb s L k) : Calls Tryz.prog 153 #[.agg #[.pointer (some ⟨rb, 0, none⟩)]] w fun e w' => e = .returned (.bool (isM L { data := #[110, 97, 109, 101] } k (-1) || isM L { data := #[110, 117, 109] } k (-1) || isM L { data := #[40] } k (-1))) ∧ Kp (fun _ => False) w w' := by
  have hk0 : Kp (fun _ => False) w (w.alloc (.cells #[.pointer (some ⟨rb, 0, none⟩)] 174)) := (Kp.refl _ _).alloc _
  have hc0 : (w.alloc (.cells #[.pointer (some ⟨rb, 0, none⟩)] 174)).heap[w.heap.size]? = some (.cells #[.pointer (some ⟨rb, 0, none⟩)] 174 (0, 0)) := heap_alloc_new _ _
  have h0 : PAt (w.alloc (.cells #[.pointer (some ⟨rb, 0, none⟩)] 174)) rb s L k := h.kp hk0
  have hrl := h.lt'
  generalize hw0 : w.alloc (.cells #[.pointer (some ⟨rb, 0, none⟩)] 174) = w0 at *
  have a0 : w0.cell? ⟨w.heap.size, 0, none⟩ = some (.pointer (some ⟨rb, 0, none⟩)) := by simp [World.cell?, hc0]
  obtain ⟨kd, hr, hT⟩ := h0.ex
  have hK := (tk_kind hE h.lt hT).2.1
  rw [← isM_same] at hK
  obtain ⟨_, c1, c2, c3⟩ := hr.c
  have HN : Hid _ := patname hE h0
  have HI : Hid (∀ w', Kp (fun _ => False) w0 w' → Calls Tryz.prog 80 #[.pointer (some ⟨rb, 0, none⟩), .string { data := #[40] }] w' fun e w'' => e = .returned (.bool (isM L { data := #[40] } k (-1))) ∧ w'' = w') := fun w' hk => at_is hE (h0.kp hk) { data := #[40] } (.inr (.inr ⟨40, rfl, rfl⟩))
  have HR : Hid (∀ w', Kp (fun _ => False) w0 w' → w'.cell? ⟨rb, 1, none⟩ = some (.int .i64 kd) ∧ w'.cell? ⟨w.heap.size, 0, none⟩ = some (.pointer (some ⟨rb, 0, none⟩))) := fun w' hk => ⟨hk.cell c1 (fun z => z), hk.cell a0 (fun z => z)⟩
  have HZ : Hid (((kd : Int) == 2) = isM L { data := #[110, 117, 109] } k (-1)) := by
    show _ = _
    rw [← hK]
    by_cases q : kd = 2
    · subst q; rfl
    · have e1 : ((kd : Int) == 2) = false := by simp; omega
      have e2 : (kd == 2) = false := by simp [q]
      rw [e1, e2]
  clear hK hr hT h h0 c2
  generalize isM L { data := #[110, 97, 109, 101] } k (-1) = b1 at *
  generalize isM L { data := #[110, 117, 109] } k (-1) = b2 at *
  generalize isM L { data := #[40] } k (-1) = b3 at *
  cases b1 <;> cases b2 <;> have hz := HZ.out
  all_goals
    go_enter Tryz.func153, Tryz.ntmps153
    go_wp2_with fail
    refine Calls.mono HN.out ?_
    rintro e w1 ⟨rfl, hk1⟩
    obtain ⟨r1, r2⟩ := HR.out w1 hk1
    have HI1 : Hid _ := HI.out w1 hk1
    clear HN
    go_wp2_with (go_at_call 80; refine Calls.mono HI1.out ?_; rintro e w' ⟨rfl, rfl⟩)
    go_ret
    exact ⟨by first | rfl | simp, hk0.trans hk1⟩
set_option maxRecDepth 20000 in
set_option maxHeartbeats 1000000 in
theorem pnewname (h : PAt w rb s L k) (names : List ByteArray) (nv : Value) (hn : w.ownsRow 0 9 1 nv names.length (names.map Value.string)) :
    Calls Tryz.prog 149 #[.agg #[.pointer (some ⟨rb, 0, none⟩)], nv] w fun e w' => PRet (fun _ v => v = .string (tkAt L k).s ∧ Wd (tkAt L k).s) w rb s L (takeK L { data := #[110, 97, 109, 101] } k (-1)) (dupB names (tkAt L k).s (tkAt L k).loc (needB L { data := #[110, 97, 109, 101] } k (-1))) e w' := by
  obtain ⟨ao, cap, rfl⟩ : ∃ ao cap, nv = .slice ao names.length cap := by
    rcases hn.2 with ⟨e1, e2⟩ | ⟨g, cap, cur, e1, _⟩
    · exact ⟨none, 0, by rw [e1, e2]⟩
    · exact ⟨_, cap, e1⟩
  have hk0 : Kp (fun _ => False) w (w.alloc (.cells #[.pointer (some ⟨rb, 0, none⟩)] 174)) := (Kp.refl _ _).alloc _
  have hc0 : (w.alloc (.cells #[.pointer (some ⟨rb, 0, none⟩)] 174)).heap[w.heap.size]? = some (.cells #[.pointer (some ⟨rb, 0, none⟩)] 174 (0, 0)) := heap_alloc_new _ _
  have h0 : PAt (w.alloc (.cells #[.pointer (some ⟨rb, 0, none⟩)] 174)) rb s L k := h.kp hk0
  have hrl := h.lt'
  generalize hw0 : w.alloc (.cells #[.pointer (some ⟨rb, 0, none⟩)] 174) = w0 at *
  have a0 : w0.cell? ⟨w.heap.size, 0, none⟩ = some (.pointer (some ⟨rb, 0, none⟩)) := by simp [World.cell?, hc0]
  obtain ⟨kd, hr, hT⟩ := h0.ex
  have hWd := (tk_kind hE h.lt hT).2.2
  obtain ⟨_, c1, c2, c3⟩ := hr.c
  have HN : Hid _ := patname hE h0
  have HC : Hid (∀ w', Kp (fun _ => False) w0 w' → Calls Tryz.prog 168 #[.slice ao names.length cap, .string (tkAt L k).s] w' fun e w'' => e = .returned (.bool (names.any (fun m => sameS m (tkAt L k).s))) ∧ w'' = w') := fun w' hk => pcon_any names _ w' _ (row_same (P := fun _ => True) (fun b _ hb => (hk0.trans hk).block b hb (fun z => z)) (fun _ _ => trivial) hn)
  have HX : Hid (∀ w', Kp (fun _ => False) w0 w' → Calls Tryz.prog 81 #[.pointer (some ⟨rb, 0, none⟩)] w' fun e w'' => ThrS w' (tkAt L k).loc e w'') := fun w' hk => (by obtain ⟨kdx, e1, _⟩ := (h0.kp hk).ex; exact prr_any w' rb s _ kdx _ e1)
  have HR : Hid (∀ w', Kp (fun _ => False) w0 w' → w'.cell? ⟨w.heap.size, 0, none⟩ = some (.pointer (some ⟨rb, 0, none⟩))) := fun w' hk => hk.cell a0 (fun z => z)
  have hkq : ∀ w', Kp (fun _ => False) w0 w' → Kq (· = rb) w w' := fun w' hk => Kq.of_kp (hk0.trans hk) (fun _ z => z.elim)
  have HQ : Hid _ := hkq
  clear hkq
  cases hM : isM L { data := #[110, 97, 109, 101] } k (-1)
  · rw [(need_false hM).1, (need_false hM).2, dup_ge (by omega)]
    rw [hM] at HN
    clear hr hT h h0 c2 hWd hn
    go_enter Tryz.func149, Tryz.ntmps149
    go_wp2_with fail
    refine Calls.mono HN.out ?_
    rintro e w1 ⟨rfl, hk1⟩
    have r1 := HR.out w1 hk1
    clear HN
    go_wp2_with fail
    refine Calls.mono (HX.out w1 hk1) ?_
    rintro e w2 ⟨b, he, hx1, hx2, hx3⟩
    rw [he]
    clear he
    go_wp2
    exact ⟨rfl, PRet.thr (ThrX.before (ThrX.of ⟨b, rfl, hx1, hx2, hx3⟩) (HQ.out w1 hk1)) (bz_ge (by omega)) (by omega)⟩
  · have hWd := hWd (.inl (is_name hM))
    have hk := isM_lt hE.good h.lt hM (by decide) (by decide)
    rw [(need_true hM).1, (need_true hM).2]
    rw [hM] at HN
    have hany : names.any (fun m => m.data.toList == (tkAt L k).s.data.toList) = names.any (fun m => sameS m (tkAt L k).s) := rfl
    unfold dupB
    rw [hany]
    cases hd : names.any (fun m => sameS m (tkAt L k).s)
    · rw [if_neg (by simp)]
      have HA : Hid (∀ w', Kp (fun _ => False) w0 w' → Calls Tryz.prog 78 #[.pointer (some ⟨rb, 0, none⟩)] w' fun e w'' => PRet (fun _ v => v = .tuple #[]) w' rb s L (k + 1) (-1) e w'') := fun w' hkw => px_adv hE (h0.kp hkw) hk
      rw [hd] at HC
      clear hr hT h h0 c2 hn hany
      go_enter Tryz.func149, Tryz.ntmps149
      go_wp2_with fail
      refine Calls.mono HN.out ?_
      rintro e w1 ⟨rfl, hk1⟩
      have r1 := HR.out w1 hk1
      clear HN
      go_wp2_with fail
      refine Calls.mono (HC.out w1 hk1) ?_
      rintro e w' ⟨rfl, hww⟩
      rw [hww]
      clear hww w'
      go_wp2_with fail
      refine Calls.mono (HA.out w1 hk1) ?_
      intro e w2 hres
      by_cases hz : 0 ≤ bz L (k + 1) (-1)
      · obtain ⟨b, he, hx⟩ := hres.2 hz
        rw [he]
        clear he hres
        go_wp2
        exact ⟨rfl, PRet.thr (ThrX.before ⟨b, rfl, hx⟩ (HQ.out w1 hk1)) rfl hz⟩
      · obtain ⟨_, v, he, hv, hP, hK⟩ := hres.1 (by omega)
        subst hv
        rw [he]
        clear he hres
        go_wp2
        go_ret
        exact PRet.ret (v := .string (tkAt L k).s) ⟨rfl, hWd⟩ hP ((HQ.out w1 hk1).trans hK)
    · rw [if_pos (by simp)]
      rw [hd] at HC
      clear hr hT h h0 c2 hn hany
      go_enter Tryz.func149, Tryz.ntmps149
      go_wp2_with fail
      refine Calls.mono HN.out ?_
      rintro e w1 ⟨rfl, hk1⟩
      have r1 := HR.out w1 hk1
      clear HN
      go_wp2_with fail
      refine Calls.mono (HC.out w1 hk1) ?_
      rintro e w' ⟨rfl, hww⟩
      rw [hww]
      clear hww w'
      go_wp2_with fail
      refine Calls.mono (HX.out w1 hk1) ?_
      rintro e w2 ⟨b, he, hx1, hx2, hx3⟩
      rw [he]
      clear he
      go_wp2
      exact ⟨rfl, PRet.thr (ThrX.before (ThrX.of ⟨b, rfl, hx1, hx2, hx3⟩) (HQ.out w1 hk1)) (bz_ge (by omega)) (by omega)⟩
end
end Go.Proofs.YtleenphlgbklmabGreatDoor

namespace Go.Proofs.YtleenphlgbklmabGreatDoor
open Go.RowKit

theorem dp_tw (x : X) : dp x ≤ tw x := by
  induction x using X.ind with
  | h op names kids loc ih =>
    have h : ∀ ks : List X, (∀ y, y ∈ ks → dp y ≤ tw y) → dps ks ≤ tws ks := by
      intro ks
      induction ks with
      | nil => intro _; simp [dps]
      | cons y ys ihy =>
        intro h
        have h1 := h y (by simp)
        have h2 := ihy (fun z hz => h z (by simp [hz]))
        simp only [dps, tws]
        omega
    have := h kids ih
    simp only [dp, tw]
    omega
theorem PX.kq {w w' : World} {P : Nat → Prop} {x : X} {v : Value} {rb : Nat} (h : PX w P x v) (hP : ∀ b, P b → b ≠ rb) (hk : Kq (· = rb) w w') : PX w' P x v := h.keep (fun b hb hl => hk.block b hl (fun z => hP b hb z))
/-- an expression that was read: all of it is new. -/
def QX (w0 : World) (x : X) : World → Value → Prop := fun w' v => PX w' (fun b => w0.heap.size ≤ b) x v
def SE (s : ByteArray) (L : List Tk) (n : Nat) : Prop := ∀ (w : World) (rb k : Nat) (x : X) (k' : Nat) (bad' : Int), PAt w rb s L k → expM L n k (-1) = some (x, k', bad') →
  Calls Tryz.prog 75 #[.agg #[.pointer (some ⟨rb, 0, none⟩)]] w fun e w' => PRet (QX w x) w rb s L k' bad' e w'
def SA (s : ByteArray) (L : List Tk) (n : Nat) : Prop := ∀ (w : World) (rb k : Nat) (x : X) (k' : Nat) (bad' : Int), PAt w rb s L k → atomM L n k (-1) = some (x, k', bad') →
  Calls Tryz.prog 152 #[.agg #[.pointer (some ⟨rb, 0, none⟩)]] w fun e w' => PRet (QX w x) w rb s L k' bad' e w'
theorem PRet.up {Q : World → Value → Prop} {w w1 w' : World} {rb : Nat} {s : ByteArray} {L : List Tk} {k1 k' : Nat} {b1 bad' : Int} {e : Ending} (hK : Kq (· = rb) w w1) (hz : 0 ≤ bz L k1 b1) (hF : 0 ≤ bz L k1 b1 → bz L k' bad' = bz L k1 b1) (h : ThrX w1 rb (bz L k1 b1) e w') : PRet Q w rb s L k' bad' e w' := PRet.thr (h.before hK) (hF hz) hz
theorem sticks {L : List Tk} {k0 k1 k' : Nat} {b0 b1 b' : Int} (S : 0 ≤ bz L k0 b0 → bz L k1 b1 = bz L k0 b0) (F : 0 ≤ bz L k1 b1 → bz L k' b' = bz L k1 b1) : 0 ≤ bz L k0 b0 → bz L k' b' = bz L k0 b0 := fun hz => (F (by rw [S hz]; exact hz)).trans (S hz)
/-- the text's bounds. -/
structure PB (L : List Tk) : Prop where
  len : L.length ≤ 301
  sz : ∀ k, (tkAt L k).s.size ≤ 300
theorem PEnv.pb {s : ByteArray} {kws : List ByteArray} {L : List Tk} (h : PEnv s kws L) : PB L := by
  have h1 := h.sz
  refine ⟨?_, fun k => ?_⟩
  · rw [h.eq]
    have := toks_len s kws (s.size + 1) 0
    omega
  · rw [h.eq]
    have := toks_size s kws (s.size + 1) 0 k
    omega
theorem PB.dp {L : List Tk} (h : PB L) {n k : Nat} {bad : Int} {x : X} {k' : Nat} {b' : Int} (hM : expM L n k bad = some (x, k', b')) (hb : b' < 0) (hk : k' < L.length) : Go.Proofs.YtleenphlgbklmabGreatDoor.dp x ≤ 200000 := by
  have h1 := (made L h.sz n).e _ _ _ _ _ hM hb
  have h2 := dp_tw x
  have := h.len
  omega
theorem pnewname0 {s : ByteArray} {L : List Tk} (hE : PEnv s wordsL L) {w : World} {rb k : Nat} (h : PAt w rb s L k) :
    Calls Tryz.prog 149 #[.agg #[.pointer (some ⟨rb, 0, none⟩)], .slice none 0 0] w fun e w' => PRet (fun _ v => v = .string (tkAt L k).s ∧ Wd (tkAt L k).s) w rb s L (takeK L { data := #[110, 97, 109, 101] } k (-1)) (needB L { data := #[110, 97, 109, 101] } k (-1)) e w' := by
  have := pnewname hE h [] (.slice none 0 0) (World.ownsRow_nil _ _ _ _)
  have e : dupB [] (tkAt L k).s (tkAt L k).loc (needB L { data := #[110, 97, 109, 101] } k (-1)) = needB L { data := #[110, 97, 109, 101] } k (-1) := by simp [dupB]
  rw [e] at this
  exact this
theorem above1 {w : World} {P : Nat → Prop} {x : X} {T : TypeId} {u : Value} (hx : PX w P x (.iface T u)) (hd : dp x ≤ 200000) :
    Calls Tryz.prog 150 #[.slice (some ⟨w.heap.size, 0, none⟩) 1 1] (w.alloc (.cells #[.iface T u] 107)) fun e w' => e = .returned (.agg #[.int .i64 (dp x + 1 : Nat)]) ∧ Kp (fun _ => False) w w' := by
  have hk : Kp (fun _ => False) w (w.alloc (.cells #[.iface T u] 107)) := (Kp.refl _ _).alloc _
  have hc : (w.alloc (.cells #[.iface T u] 107)).heap[w.heap.size]? = some (.cells #[.iface T u] 107 (0, 0)) := heap_alloc_new _ _
  have := above_any [x] [.iface T u] w.heap.size 1 (w.alloc (.cells #[.iface T u] 107)) P rfl (by
    intro j hj
    have : j = 0 := by simpa using hj
    subst this
    simp only [World.cell?, hc]
    rfl) (by
    intro j y p h1 h2
    match j, h1, h2 with
    | 0, h1, h2 => simp at h1 h2; subst h1; subst h2; exact hx.kp hk) (by simp) (by simp [dps]; omega)
  refine this.mono ?_
  rintro e w' ⟨rfl, hk2⟩
  exact ⟨by simp [dps], hk.trans hk2⟩
theorem above2 {w : World} {P : Nat → Prop} {x y : X} {T T2 : TypeId} {u u2 : Value} (hx : PX w P x (.iface T u)) (hy : PX w P y (.iface T2 u2)) (hd : dp x ≤ 200000) (hd2 : dp y ≤ 200000) :
    Calls Tryz.prog 150 #[.slice (some ⟨w.heap.size, 0, none⟩) 2 2] (w.alloc (.cells #[.iface T u, .iface T2 u2] 107)) fun e w' => e = .returned (.agg #[.int .i64 (max (dp x) (dp y) + 1 : Nat)]) ∧ Kp (fun _ => False) w w' := by
  have hk : Kp (fun _ => False) w (w.alloc (.cells #[.iface T u, .iface T2 u2] 107)) := (Kp.refl _ _).alloc _
  have hc : (w.alloc (.cells #[.iface T u, .iface T2 u2] 107)).heap[w.heap.size]? = some (.cells #[.iface T u, .iface T2 u2] 107 (0, 0)) := heap_alloc_new _ _
  have := above_any [x, y] [.iface T u, .iface T2 u2] w.heap.size 2 (w.alloc (.cells #[.iface T u, .iface T2 u2] 107)) P rfl (by
    intro j hj
    match j, hj with
    | 0, _ => simp only [World.cell?, hc]; rfl
    | 1, _ => simp only [World.cell?, hc]; rfl) (by
    intro j z p h1 h2
    match j, h1, h2 with
    | 0, h1, h2 => simp at h1 h2; subst h1; subst h2; exact hx.kp hk
    | 1, h1, h2 => simp at h1 h2; subst h1; subst h2; exact hy.kp hk) (by simp) (by simp [dps]; omega)
  refine this.mono ?_
  rintro e w' ⟨rfl, hk2⟩
  exact ⟨by simp [dps], hk.trans hk2⟩
theorem above3 {w : World} {P : Nat → Prop} {x y z : X} {T T2 T3 : TypeId} {u u2 u3 : Value} (hx : PX w P x (.iface T u)) (hy : PX w P y (.iface T2 u2)) (hz : PX w P z (.iface T3 u3)) (hd : dp x ≤ 200000) (hd2 : dp y ≤ 200000) (hd3 : dp z ≤ 200000) :
    Calls Tryz.prog 150 #[.slice (some ⟨w.heap.size, 0, none⟩) 3 3] (w.alloc (.cells #[.iface T u, .iface T2 u2, .iface T3 u3] 107)) fun e w' => e = .returned (.agg #[.int .i64 (max (dp x) (max (dp y) (dp z)) + 1 : Nat)]) ∧ Kp (fun _ => False) w w' := by
  have hk : Kp (fun _ => False) w (w.alloc (.cells #[.iface T u, .iface T2 u2, .iface T3 u3] 107)) := (Kp.refl _ _).alloc _
  have hc : (w.alloc (.cells #[.iface T u, .iface T2 u2, .iface T3 u3] 107)).heap[w.heap.size]? = some (.cells #[.iface T u, .iface T2 u2, .iface T3 u3] 107 (0, 0)) := heap_alloc_new _ _
  have := above_any [x, y, z] [.iface T u, .iface T2 u2, .iface T3 u3] w.heap.size 3 (w.alloc (.cells #[.iface T u, .iface T2 u2, .iface T3 u3] 107)) P rfl (by
    intro j hj
    match j, hj with
    | 0, _ => simp only [World.cell?, hc]; rfl
    | 1, _ => simp only [World.cell?, hc]; rfl
    | 2, _ => simp only [World.cell?, hc]; rfl) (by
    intro j t p h1 h2
    match j, h1, h2 with
    | 0, h1, h2 => simp at h1 h2; subst h1; subst h2; exact hx.kp hk
    | 1, h1, h2 => simp at h1 h2; subst h1; subst h2; exact hy.kp hk
    | 2, h1, h2 => simp at h1 h2; subst h1; subst h2; exact hz.kp hk) (by simp) (by simp [dps]; omega)
  refine this.mono ?_
  rintro e w' ⟨rfl, hk2⟩
  exact ⟨by simp [dps], hk.trans hk2⟩
end Go.Proofs.YtleenphlgbklmabGreatDoor

namespace Go.Proofs.YtleenphlgbklmabGreatDoor
open Go.RowKit

set_option maxRecDepth 20000 in
set_option maxHeartbeats 1000000 in
theorem pfun_any {s : ByteArray} {L : List Tk} (hE : PEnv s wordsL L) (n : Nat) (hA : SE s L n) (w : World) (rb k : Nat) (h : PAt w rb s L k) (hM : isM L { data := #[102, 117, 110] } k (-1) = true) (x : X) (K4 : Nat) (B4 : Int)
    (hX : expM L n (takeK L { data := #[45, 62] } (takeK L { data := #[110, 97, 109, 101] } (k + 1) (-1)) (needB L { data := #[110, 97, 109, 101] } (k + 1) (-1))) (needB L { data := #[45, 62] } (takeK L { data := #[110, 97, 109, 101] } (k + 1) (-1)) (needB L { data := #[110, 97, 109, 101] } (k + 1) (-1))) = some (x, K4, B4)) :
    Calls Tryz.prog 108 #[.agg #[.pointer (some ⟨rb, 0, none⟩)]] w fun e w' => PRet (QX w (.mk { data := #[102, 117, 110] } [(tkAt L (k + 1)).s] [x] (tkAt L k).loc)) w rb s L K4 B4 e w' := by
  obtain ⟨K0, B0, hK0, hB0⟩ : ∃ K0, ∃ B0 : Int, K0 = k ∧ B0 = -1 := ⟨_, _, rfl, rfl⟩
  obtain ⟨K1, eK1⟩ : ∃ K, takeK L { data := #[102, 117, 110] } K0 B0 = K := ⟨_, rfl⟩
  obtain ⟨B1, eB1⟩ : ∃ B, needB L { data := #[102, 117, 110] } K0 B0 = B := ⟨_, rfl⟩
  have q1 : K1 = k + 1 ∧ B1 = -1 := by rw [← eK1, ← eB1, hK0, hB0]; exact need_true hM
  rw [← q1.1, ← q1.2] at hX
  obtain ⟨K2, eK2⟩ : ∃ K, takeK L { data := #[110, 97, 109, 101] } K1 B1 = K := ⟨_, rfl⟩
  obtain ⟨B2, eB2⟩ : ∃ B, needB L { data := #[110, 97, 109, 101] } K1 B1 = B := ⟨_, rfl⟩
  rw [eK2, eB2] at hX
  obtain ⟨K3, eK3⟩ : ∃ K, takeK L { data := #[45, 62] } K2 B2 = K := ⟨_, rfl⟩
  obtain ⟨B3, eB3⟩ : ∃ B, needB L { data := #[45, 62] } K2 B2 = B := ⟨_, rfl⟩
  rw [eK3, eB3] at hX
  have M4 := hX
  have HX1 : Hid (B4 < 0 → K4 < L.length → dp x ≤ 200000) := fun h1 h2 => hE.pb.dp hX h1 h2
  clear hX
  rw [← q1.1]
  clear q1
  have S4 : 0 ≤ bz L K3 B3 → bz L K4 B4 = bz L K3 B3 := fun hz => (stk L n).ex _ _ _ _ _ M4 hz
  have S3 : 0 ≤ bz L K2 B2 → bz L K3 B3 = bz L K2 B2 := fun hz => by rw [← eK3, ← eB3]; exact need_bz' hz (by decide)
  have S2 : 0 ≤ bz L K1 B1 → bz L K2 B2 = bz L K1 B1 := fun hz => by rw [← eK2, ← eB2]; exact need_bz' hz (by decide)
  have S1 : 0 ≤ bz L K0 B0 → bz L K1 B1 = bz L K0 B0 := fun hz => by rw [← eK1, ← eB1]; exact need_bz' hz (by decide)
  have F3 : Hid (0 ≤ bz L K3 B3 → bz L K4 B4 = bz L K3 B3) := S4
  have F2 : Hid (0 ≤ bz L K2 B2 → bz L K4 B4 = bz L K2 B2) := sticks S3 F3.out
  have F1 : Hid (0 ≤ bz L K1 B1 → bz L K4 B4 = bz L K1 B1) := sticks S2 F2.out
  clear S1 S2 S3 S4
  have EK1 : Hid _ := eK1
  have EB1 : Hid _ := eB1
  clear eK1 eB1
  have EK2 : Hid _ := eK2
  have EB2 : Hid _ := eB2
  clear eK2 eB2
  have EK3 : Hid _ := eK3
  have EB3 : Hid _ := eB3
  clear eK3 eB3
  have HM4 : Hid _ := M4
  clear M4
  rw [← hK0] at h ⊢
  subst hB0
  clear hK0 hM
  have hk0 : Kp (fun _ => False) w (w.alloc (.cells #[.pointer (some ⟨rb, 0, none⟩)] 174)) := (Kp.refl _ _).alloc _
  have hc0 : (w.alloc (.cells #[.pointer (some ⟨rb, 0, none⟩)] 174)).heap[w.heap.size]? = some (.cells #[.pointer (some ⟨rb, 0, none⟩)] 174 (0, 0)) := heap_alloc_new _ _
  have h0 : PAt (w.alloc (.cells #[.pointer (some ⟨rb, 0, none⟩)] 174)) rb s L K0 := h.kp hk0
  have hrl := h.lt'
  generalize hw0 : w.alloc (.cells #[.pointer (some ⟨rb, 0, none⟩)] 174) = w0 at *
  have a0 : w0.cell? ⟨w.heap.size, 0, none⟩ = some (.pointer (some ⟨rb, 0, none⟩)) := by simp [World.cell?, hc0]
  go_enter Tryz.func108, Tryz.ntmps108
  have C1 := px_expect hE h0 { data := #[102, 117, 110] } (.inl (by simp [wordsL])) (by decide) (by decide)
  rw [EK1.out, EB1.out] at C1
  have HC1 : Hid _ := C1
  clear C1
  go_wp2_with fail
  refine Calls.mono HC1.out ?_
  intro e w2p hres
  clear HC1
  by_cases hz : 0 ≤ bz L K1 B1
  · obtain ⟨b, he, hx⟩ := hres.2 hz
    rw [he]
    clear he hres
    go_wp2
    exact ⟨rfl, PRet.up (Kq.of_kp hk0 (fun _ z => z.elim)) hz F1.out ⟨b, rfl, hx⟩⟩
  obtain ⟨hb, v, he, hv, P1, kq⟩ := hres.1 (by omega)
  clear hz hres
  have KK1 := (Kq.of_kp hk0 (fun _ z => z.elim)).trans kq
  have hc1p := (kq.block _ (lt_of_block hc0) (by show ¬ _; omega)).trans hc0
  have a1p : w2p.cell? ⟨w.heap.size, 0, none⟩ = some (.pointer (some ⟨rb, 0, none⟩)) := by simp [World.cell?, hc1p]
  subst hv
  subst he
  subst hb
  have C2 := pnewname0 hE P1
  rw [EK2.out, EB2.out] at C2
  have HC2 : Hid _ := C2
  clear C2
  go_wp2_with fail
  refine Calls.mono HC2.out ?_
  intro e w3p hres
  clear HC2
  by_cases hz : 0 ≤ bz L K2 B2
  · obtain ⟨b, he, hx⟩ := hres.2 hz
    rw [he]
    clear he hres
    go_wp2
    exact ⟨rfl, PRet.up KK1 hz F2.out ⟨b, rfl, hx⟩⟩
  obtain ⟨hb, v, he, hv, P2, kq⟩ := hres.1 (by omega)
  clear hz hres
  have KK2 := KK1.trans kq
  have hc2p := (kq.block _ (lt_of_block hc1p) (by show ¬ _; omega)).trans hc1p
  have a2p : w3p.cell? ⟨w.heap.size, 0, none⟩ = some (.pointer (some ⟨rb, 0, none⟩)) := by simp [World.cell?, hc2p]
  obtain ⟨hv, hWd⟩ := hv
  subst hv
  subst he
  subst hb
  have C3 := px_expect hE P2 { data := #[45, 62] } (.inr (.inl rfl)) (by decide) (by decide)
  rw [EK3.out, EB3.out] at C3
  have HC3 : Hid _ := C3
  clear C3
  go_wp2_with fail
  refine Calls.mono HC3.out ?_
  intro e w4p hres
  clear HC3
  by_cases hz : 0 ≤ bz L K3 B3
  · obtain ⟨b, he, hx⟩ := hres.2 hz
    rw [he]
    clear he hres
    go_wp2
    exact ⟨rfl, PRet.up KK2 hz F3.out ⟨b, rfl, hx⟩⟩
  obtain ⟨hb, v, he, hv, P3, kq⟩ := hres.1 (by omega)
  clear hz hres
  have KK3 := KK2.trans kq
  have hc3p := (kq.block _ (lt_of_block hc2p) (by show ¬ _; omega)).trans hc2p
  have a3p : w4p.cell? ⟨w.heap.size, 0, none⟩ = some (.pointer (some ⟨rb, 0, none⟩)) := by simp [World.cell?, hc3p]
  subst hv
  subst he
  subst hb
  have C4 := hA _ _ _ _ _ _ P3 HM4.out
  have HC4 : Hid _ := C4
  clear C4
  go_wp2_with fail
  refine Calls.mono HC4.out ?_
  intro e w5p hres
  clear HC4
  by_cases hz : 0 ≤ bz L K4 B4
  · obtain ⟨b, he, hx⟩ := hres.2 hz
    rw [he]
    clear he hres
    go_wp2
    exact ⟨rfl, PRet.up KK3 hz (fun _ => rfl) ⟨b, rfl, hx⟩⟩
  obtain ⟨hb, v, he, hv, P4, kq⟩ := hres.1 (by omega)
  clear hz hres
  have KK4 := KK3.trans kq
  have hc4p := (kq.block _ (lt_of_block hc3p) (by show ¬ _; omega)).trans hc3p
  have a4p : w5p.cell? ⟨w.heap.size, 0, none⟩ = some (.pointer (some ⟨rb, 0, none⟩)) := by simp [World.cell?, hc4p]
  have X4 : PX w5p (fun b => w.heap.size ≤ b) _ v := hv.mono (fun b h1 _ => Nat.le_trans KK3.size h1)
  obtain ⟨T4, u4, rfl⟩ := hv.iface
  subst he
  clear hv
  subst hb
  have hdx := HX1.out (by omega) P4.lt
  have HB : Hid _ := above1 X4 hdx
  go_wp2_with fail
  refine Calls.mono HB.out ?_
  rintro e wfp ⟨rfl, hkf⟩
  have KF := KK4.trans (Kq.of_kp (S := (· = rb)) hkf (fun _ z => z.elim))
  have Y4 := X4.kp hkf
  have PF := P4.kp hkf
  have hkg : Kp (fun _ => False) wfp (wfp.alloc (.cells #[.int .i64 (dp x + 1 : Nat), .string (tkAt L K1).s, .iface T4 u4] 242)) := (Kp.refl _ _).alloc _
  have hbg : (wfp.alloc (.cells #[.int .i64 (dp x + 1 : Nat), .string (tkAt L K1).s, .iface T4 u4] 242)).heap[wfp.heap.size]? = some (.cells #[.int .i64 (dp x + 1 : Nat), .string (tkAt L K1).s, .iface T4 u4] 242 (0, 0)) := heap_alloc_new _ _
  have FX : Hid (PRet (QX w (.mk { data := #[102, 117, 110] } [(tkAt L K1).s] [x] (tkAt L K0).loc)) w rb s L K4 (-1) (.returned (.iface 240 (.pointer (some ⟨wfp.heap.size, 0, none⟩)))) (wfp.alloc (.cells #[.int .i64 (dp x + 1 : Nat), .string (tkAt L K1).s, .iface T4 u4] 242))) := PRet.ret (Q := QX w (.mk { data := #[102, 117, 110] } [(tkAt L K1).s] [x] (tkAt L K0).loc)) (PX.fn _ _ _ _ _ hWd KF.size hbg (Y4.kp hkg)) (PF.kp hkg) (KF.trans (Kq.of_kp (S := (· = rb)) hkg (fun _ z => z.elim)))
  clear HB hkg hbg
  go_wp2
  go_ret
  exact FX.out
set_option maxRecDepth 20000 in
set_option maxHeartbeats 1000000 in
theorem pif_any {s : ByteArray} {L : List Tk} (hE : PEnv s wordsL L) (n : Nat) (hA : SE s L n) (w : World) (rb k : Nat) (h : PAt w rb s L k) (hM : isM L { data := #[105, 102] } k (-1) = true) (x y z : X) (K2 K4 K6 : Nat) (B2 B4 B6 : Int)
    (hX : expM L n (k + 1) (-1) = some (x, K2, B2)) (hY : expM L n (takeK L { data := #[116, 104, 101, 110] } K2 B2) (needB L { data := #[116, 104, 101, 110] } K2 B2) = some (y, K4, B4)) (hZ : expM L n (takeK L { data := #[101, 108, 115, 101] } K4 B4) (needB L { data := #[101, 108, 115, 101] } K4 B4) = some (z, K6, B6)) :
    Calls Tryz.prog 109 #[.agg #[.pointer (some ⟨rb, 0, none⟩)]] w fun e w' => PRet (QX w (.mk { data := #[105, 102] } [] [x, y, z] (tkAt L k).loc)) w rb s L K6 B6 e w' := by
  obtain ⟨K0, B0, hK0, hB0⟩ : ∃ K0, ∃ B0 : Int, K0 = k ∧ B0 = -1 := ⟨_, _, rfl, rfl⟩
  obtain ⟨K1, eK1⟩ : ∃ K, takeK L { data := #[105, 102] } K0 B0 = K := ⟨_, rfl⟩
  obtain ⟨B1, eB1⟩ : ∃ B, needB L { data := #[105, 102] } K0 B0 = B := ⟨_, rfl⟩
  have q1 : K1 = k + 1 ∧ B1 = -1 := by rw [← eK1, ← eB1, hK0, hB0]; exact need_true hM
  rw [← q1.1, ← q1.2] at hX
  obtain ⟨K3, eK3⟩ : ∃ K, takeK L { data := #[116, 104, 101, 110] } K2 B2 = K := ⟨_, rfl⟩
  obtain ⟨B3, eB3⟩ : ∃ B, needB L { data := #[116, 104, 101, 110] } K2 B2 = B := ⟨_, rfl⟩
  rw [eK3, eB3] at hY
  obtain ⟨K5, eK5⟩ : ∃ K, takeK L { data := #[101, 108, 115, 101] } K4 B4 = K := ⟨_, rfl⟩
  obtain ⟨B5, eB5⟩ : ∃ B, needB L { data := #[101, 108, 115, 101] } K4 B4 = B := ⟨_, rfl⟩
  rw [eK5, eB5] at hZ
  have M2 := hX
  have M4 := hY
  have M6 := hZ
  have HX1 : Hid (B2 < 0 → K2 < L.length → dp x ≤ 200000) := fun h1 h2 => hE.pb.dp hX h1 h2
  have HX2 : Hid (B4 < 0 → K4 < L.length → dp y ≤ 200000) := fun h1 h2 => hE.pb.dp hY h1 h2
  have HX3 : Hid (B6 < 0 → K6 < L.length → dp z ≤ 200000) := fun h1 h2 => hE.pb.dp hZ h1 h2
  clear hX hY hZ q1
  have S6 : 0 ≤ bz L K5 B5 → bz L K6 B6 = bz L K5 B5 := fun hz => (stk L n).ex _ _ _ _ _ M6 hz
  have S5 : 0 ≤ bz L K4 B4 → bz L K5 B5 = bz L K4 B4 := fun hz => by rw [← eK5, ← eB5]; exact need_bz' hz (by decide)
  have S4 : 0 ≤ bz L K3 B3 → bz L K4 B4 = bz L K3 B3 := fun hz => (stk L n).ex _ _ _ _ _ M4 hz
  have S3 : 0 ≤ bz L K2 B2 → bz L K3 B3 = bz L K2 B2 := fun hz => by rw [← eK3, ← eB3]; exact need_bz' hz (by decide)
  have S2 : 0 ≤ bz L K1 B1 → bz L K2 B2 = bz L K1 B1 := fun hz => (stk L n).ex _ _ _ _ _ M2 hz
  have S1 : 0 ≤ bz L K0 B0 → bz L K1 B1 = bz L K0 B0 := fun hz => by rw [← eK1, ← eB1]; exact need_bz' hz (by decide)
  have F5 : Hid (0 ≤ bz L K5 B5 → bz L K6 B6 = bz L K5 B5) := S6
  have F4 : Hid (0 ≤ bz L K4 B4 → bz L K6 B6 = bz L K4 B4) := sticks S5 F5.out
  have F3 : Hid (0 ≤ bz L K3 B3 → bz L K6 B6 = bz L K3 B3) := sticks S4 F4.out
  have F2 : Hid (0 ≤ bz L K2 B2 → bz L K6 B6 = bz L K2 B2) := sticks S3 F3.out
  have F1 : Hid (0 ≤ bz L K1 B1 → bz L K6 B6 = bz L K1 B1) := sticks S2 F2.out
  clear S1 S2 S3 S4 S5 S6
  have EK1 : Hid _ := eK1
  have EB1 : Hid _ := eB1
  clear eK1 eB1
  have HM2 : Hid _ := M2
  clear M2
  have EK3 : Hid _ := eK3
  have EB3 : Hid _ := eB3
  clear eK3 eB3
  have HM4 : Hid _ := M4
  clear M4
  have EK5 : Hid _ := eK5
  have EB5 : Hid _ := eB5
  clear eK5 eB5
  have HM6 : Hid _ := M6
  clear M6
  rw [← hK0] at h ⊢
  subst hB0
  clear hK0 hM
  have hk0 : Kp (fun _ => False) w (w.alloc (.cells #[.pointer (some ⟨rb, 0, none⟩)] 174)) := (Kp.refl _ _).alloc _
  have hc0 : (w.alloc (.cells #[.pointer (some ⟨rb, 0, none⟩)] 174)).heap[w.heap.size]? = some (.cells #[.pointer (some ⟨rb, 0, none⟩)] 174 (0, 0)) := heap_alloc_new _ _
  have h0 : PAt (w.alloc (.cells #[.pointer (some ⟨rb, 0, none⟩)] 174)) rb s L K0 := h.kp hk0
  have hrl := h.lt'
  generalize hw0 : w.alloc (.cells #[.pointer (some ⟨rb, 0, none⟩)] 174) = w0 at *
  have a0 : w0.cell? ⟨w.heap.size, 0, none⟩ = some (.pointer (some ⟨rb, 0, none⟩)) := by simp [World.cell?, hc0]
  go_enter Tryz.func109, Tryz.ntmps109
  have C1 := px_expect hE h0 { data := #[105, 102] } (.inl (by simp [wordsL])) (by decide) (by decide)
  rw [EK1.out, EB1.out] at C1
  have HC1 : Hid _ := C1
  clear C1
  go_wp2_with fail
  refine Calls.mono HC1.out ?_
  intro e w2p hres
  clear HC1
  by_cases hz : 0 ≤ bz L K1 B1
  · obtain ⟨b, he, hx⟩ := hres.2 hz
    rw [he]
    clear he hres
    go_wp2
    exact ⟨rfl, PRet.up (Kq.of_kp hk0 (fun _ z => z.elim)) hz F1.out ⟨b, rfl, hx⟩⟩
  obtain ⟨hb, v, he, hv, P1, kq⟩ := hres.1 (by omega)
  clear hz hres
  have KK1 := (Kq.of_kp hk0 (fun _ z => z.elim)).trans kq
  have hc1p := (kq.block _ (lt_of_block hc0) (by show ¬ _; omega)).trans hc0
  have a1p : w2p.cell? ⟨w.heap.size, 0, none⟩ = some (.pointer (some ⟨rb, 0, none⟩)) := by simp [World.cell?, hc1p]
  subst hv
  subst he
  subst hb
  have C2 := hA _ _ _ _ _ _ P1 HM2.out
  have HC2 : Hid _ := C2
  clear C2
  go_wp2_with fail
  refine Calls.mono HC2.out ?_
  intro e w3p hres
  clear HC2
  by_cases hz : 0 ≤ bz L K2 B2
  · obtain ⟨b, he, hx⟩ := hres.2 hz
    rw [he]
    clear he hres
    go_wp2
    exact ⟨rfl, PRet.up KK1 hz F2.out ⟨b, rfl, hx⟩⟩
  obtain ⟨hb, v, he, hv, P2, kq⟩ := hres.1 (by omega)
  clear hz hres
  have KK2 := KK1.trans kq
  have hc2p := (kq.block _ (lt_of_block hc1p) (by show ¬ _; omega)).trans hc1p
  have a2p : w3p.cell? ⟨w.heap.size, 0, none⟩ = some (.pointer (some ⟨rb, 0, none⟩)) := by simp [World.cell?, hc2p]
  have X2 : PX w3p (fun b => w.heap.size ≤ b) _ v := hv.mono (fun b h1 _ => Nat.le_trans KK1.size h1)
  obtain ⟨T2, u2, rfl⟩ := hv.iface
  subst he
  clear hv
  subst hb
  have C3 := px_expect hE P2 { data := #[116, 104, 101, 110] } (.inl (by simp [wordsL])) (by decide) (by decide)
  rw [EK3.out, EB3.out] at C3
  have HC3 : Hid _ := C3
  clear C3
  go_wp2_with fail
  refine Calls.mono HC3.out ?_
  intro e w4p hres
  clear HC3
  by_cases hz : 0 ≤ bz L K3 B3
  · obtain ⟨b, he, hx⟩ := hres.2 hz
    rw [he]
    clear he hres
    go_wp2
    exact ⟨rfl, PRet.up KK2 hz F3.out ⟨b, rfl, hx⟩⟩
  obtain ⟨hb, v, he, hv, P3, kq⟩ := hres.1 (by omega)
  clear hz hres
  have KK3 := KK2.trans kq
  have hc3p := (kq.block _ (lt_of_block hc2p) (by show ¬ _; omega)).trans hc2p
  have a3p : w4p.cell? ⟨w.heap.size, 0, none⟩ = some (.pointer (some ⟨rb, 0, none⟩)) := by simp [World.cell?, hc3p]
  subst hv
  subst he
  have X2 := X2.kq (fun b h1 => by have h1 : w.heap.size ≤ b := h1; omega) kq
  subst hb
  have C4 := hA _ _ _ _ _ _ P3 HM4.out
  have HC4 : Hid _ := C4
  clear C4
  go_wp2_with fail
  refine Calls.mono HC4.out ?_
  intro e w5p hres
  clear HC4
  by_cases hz : 0 ≤ bz L K4 B4
  · obtain ⟨b, he, hx⟩ := hres.2 hz
    rw [he]
    clear he hres
    go_wp2
    exact ⟨rfl, PRet.up KK3 hz F4.out ⟨b, rfl, hx⟩⟩
  obtain ⟨hb, v, he, hv, P4, kq⟩ := hres.1 (by omega)
  clear hz hres
  have KK4 := KK3.trans kq
  have hc4p := (kq.block _ (lt_of_block hc3p) (by show ¬ _; omega)).trans hc3p
  have a4p : w5p.cell? ⟨w.heap.size, 0, none⟩ = some (.pointer (some ⟨rb, 0, none⟩)) := by simp [World.cell?, hc4p]
  have X4 : PX w5p (fun b => w.heap.size ≤ b) _ v := hv.mono (fun b h1 _ => Nat.le_trans KK3.size h1)
  obtain ⟨T4, u4, rfl⟩ := hv.iface
  subst he
  clear hv
  have X2 := X2.kq (fun b h1 => by have h1 : w.heap.size ≤ b := h1; omega) kq
  subst hb
  have C5 := px_expect hE P4 { data := #[101, 108, 115, 101] } (.inl (by simp [wordsL])) (by decide) (by decide)
  rw [EK5.out, EB5.out] at C5
  have HC5 : Hid _ := C5
  clear C5
  go_wp2_with fail
  refine Calls.mono HC5.out ?_
  intro e w6p hres
  clear HC5
  by_cases hz : 0 ≤ bz L K5 B5
  · obtain ⟨b, he, hx⟩ := hres.2 hz
    rw [he]
    clear he hres
    go_wp2
    exact ⟨rfl, PRet.up KK4 hz F5.out ⟨b, rfl, hx⟩⟩
  obtain ⟨hb, v, he, hv, P5, kq⟩ := hres.1 (by omega)
  clear hz hres
  have KK5 := KK4.trans kq
  have hc5p := (kq.block _ (lt_of_block hc4p) (by show ¬ _; omega)).trans hc4p
  have a5p : w6p.cell? ⟨w.heap.size, 0, none⟩ = some (.pointer (some ⟨rb, 0, none⟩)) := by simp [World.cell?, hc5p]
  subst hv
  subst he
  have X2 := X2.kq (fun b h1 => by have h1 : w.heap.size ≤ b := h1; omega) kq
  have X4 := X4.kq (fun b h1 => by have h1 : w.heap.size ≤ b := h1; omega) kq
  subst hb
  have C6 := hA _ _ _ _ _ _ P5 HM6.out
  have HC6 : Hid _ := C6
  clear C6
  go_wp2_with fail
  refine Calls.mono HC6.out ?_
  intro e w7p hres
  clear HC6
  by_cases hz : 0 ≤ bz L K6 B6
  · obtain ⟨b, he, hx⟩ := hres.2 hz
    rw [he]
    clear he hres
    go_wp2
    exact ⟨rfl, PRet.up KK5 hz (fun _ => rfl) ⟨b, rfl, hx⟩⟩
  obtain ⟨hb, v, he, hv, P6, kq⟩ := hres.1 (by omega)
  clear hz hres
  have KK6 := KK5.trans kq
  have hc6p := (kq.block _ (lt_of_block hc5p) (by show ¬ _; omega)).trans hc5p
  have a6p : w7p.cell? ⟨w.heap.size, 0, none⟩ = some (.pointer (some ⟨rb, 0, none⟩)) := by simp [World.cell?, hc6p]
  have X6 : PX w7p (fun b => w.heap.size ≤ b) _ v := hv.mono (fun b h1 _ => Nat.le_trans KK5.size h1)
  obtain ⟨T6, u6, rfl⟩ := hv.iface
  subst he
  clear hv
  have X2 := X2.kq (fun b h1 => by have h1 : w.heap.size ≤ b := h1; omega) kq
  have X4 := X4.kq (fun b h1 => by have h1 : w.heap.size ≤ b := h1; omega) kq
  subst hb
  have hdx := HX1.out (by omega) P2.lt
  have hdy := HX2.out (by omega) P4.lt
  have hdz := HX3.out (by omega) P6.lt
  have HB : Hid _ := above3 X2 X4 X6 hdx hdy hdz
  go_wp2_with fail
  refine Calls.mono HB.out ?_
  rintro e wfp ⟨rfl, hkf⟩
  have KF := KK6.trans (Kq.of_kp (S := (· = rb)) hkf (fun _ z => z.elim))
  have Y2 := X2.kp hkf
  have Y4 := X4.kp hkf
  have Y6 := X6.kp hkf
  have PF := P6.kp hkf
  have hkg : Kp (fun _ => False) wfp (wfp.alloc (.cells #[.int .i64 (max (dp x) (max (dp y) (dp z)) + 1 : Nat), .iface T2 u2, .iface T4 u4, .iface T6 u6] 246)) := (Kp.refl _ _).alloc _
  have hbg : (wfp.alloc (.cells #[.int .i64 (max (dp x) (max (dp y) (dp z)) + 1 : Nat), .iface T2 u2, .iface T4 u4, .iface T6 u6] 246)).heap[wfp.heap.size]? = some (.cells #[.int .i64 (max (dp x) (max (dp y) (dp z)) + 1 : Nat), .iface T2 u2, .iface T4 u4, .iface T6 u6] 246 (0, 0)) := heap_alloc_new _ _
  have FX : Hid (PRet (QX w (.mk { data := #[105, 102] } [] [x, y, z] (tkAt L K0).loc)) w rb s L K6 (-1) (.returned (.iface 244 (.pointer (some ⟨wfp.heap.size, 0, none⟩)))) (wfp.alloc (.cells #[.int .i64 (max (dp x) (max (dp y) (dp z)) + 1 : Nat), .iface T2 u2, .iface T4 u4, .iface T6 u6] 246))) := PRet.ret (Q := QX w (.mk { data := #[105, 102] } [] [x, y, z] (tkAt L K0).loc)) (PX.ite _ _ _ _ _ _ _ _ KF.size hbg (Y2.kp hkg) (Y4.kp hkg) (Y6.kp hkg)) (PF.kp hkg) (KF.trans (Kq.of_kp (S := (· = rb)) hkg (fun _ z => z.elim)))
  clear HB hkg hbg
  go_wp2
  go_ret
  exact FX.out
end Go.Proofs.YtleenphlgbklmabGreatDoor
