import Derived.Test.YtleenphlgbklmaaGreatDoorTWRead
import Derived.Test.YtleenphlgbklmaaGreatDoorTTGood
set_option linter.unusedVariables false
set_option linter.unusedSimpArgs false
namespace Go.Proofs.YtleenphlgbklmaaGreatDoor
open Go.RowKit

def kkinds : List ByteArray := [{ data := #[105, 110, 116] }, { data := #[98, 111, 111, 108] }]
theorem kinds_any (w : World) : Calls Tryz.prog 44 #[] w fun e w' => e = .returned (.slice (some ⟨w.heap.size, 0, none⟩) 2 2) ∧ w' = w.alloc (.cells #[.string { data := #[105, 110, 116] }, .string { data := #[98, 111, 111, 108] }] 9) := by
  go_enter Tryz.func44, Tryz.ntmps44
  go_wp2
  go_ret
  exact ⟨rfl, rfl⟩

set_option maxHeartbeats 1000000 in
theorem parsed_long (s : ByteArray) (w : World) (h : 300 < s.size) (hm : s.size ≤ 9223372036854775807) :
    Calls Tryz.prog 19 #[.string s] w fun e w' => e = .returned (.tuple #[.pointer none, .slice none 0 0, faultV 1 0]) ∧ Kp (fun _ => False) w w' := by
  go_enter Tryz.func19, Tryz.ntmps19
  go_wp2
  exact bodyPost_ret (v := .tuple #[.pointer none, .slice none 0 0, faultV 1 0]) (by simp [results, Tryz.results19, go_sem, faultV]) rfl ⟨rfl, (Kp.refl _ _).alloc _⟩

/-- the document's tokens of a type's text. -/
def lexT (s : ByteArray) : List Tk := toksF s kkinds (s.size + 1) 0

set_option maxRecDepth 20000 in
set_option maxHeartbeats 4000000 in
theorem parsed_any (s : ByteArray) (w : World) (h : s.size ≤ 300) (n : Nat) (t : Ty) (names : List ByteArray) (k : Nat) (b : Int) (hM : arrowM (lexT s) n [] 0 (-1) = some (t, names, k, b)) :
    Calls Tryz.prog 19 #[.string s] w fun e w' => Kp (fun _ => False) w w' ∧
      (0 ≤ needB (lexT s) { data := #[101, 110, 100] } k b → e = .returned (.tuple #[.pointer none, .slice none 0 0, faultV 2 (needB (lexT s) { data := #[101, 110, 100] } k b)])) ∧
      (needB (lexT s) { data := #[101, 110, 100] } k b < 0 → 120 < sz t → e = .returned (.tuple #[.pointer none, .slice none 0 0, faultV 8 0])) ∧
      (needB (lexT s) { data := #[101, 110, 100] } k b < 0 → sz t ≤ 120 → ∃ p nv, e = .returned (.tuple #[p, nv, faultV 0 0]) ∧ TRep w' t p ∧ w'.ownsRow w.heap.size 9 1 nv names.length (names.map Value.string)) := by
  have hll : (lexT s).length ≤ 1000 := by
    have := toks_len s kkinds (s.size + 1) 0
    unfold lexT
    omega
  have hG : Good (lexT s) := by unfold lexT; exact toks_good s kkinds
  have hE : Hid (SArr (lexT s) n) := (tref_all (lexT s) hll hG n).1
  have hpos : 0 < (lexT s).length := by unfold lexT; exact toks_pos s kkinds
  obtain ⟨hkl, hok⟩ := (tread_ok (lexT s) hG n).1 _ _ _ _ _ _ _ hM hpos (NmOk.nil _)
  have hsz : Hid (b < 0 → sz t ≤ 1000000) := fun hb => by
    have := (tread_good (lexT s) n).1 _ _ _ _ _ _ _ hM hb
    omega
  have hneg : Hid (needB (lexT s) { data := #[101, 110, 100] } k b < 0 → b < 0) := fun q => (needB_negT q).1
  obtain ⟨L, hLL⟩ : ∃ L, L = lexT s := ⟨_, rfl⟩
  rw [← hLL] at hll hpos hM hneg hkl
  have PK : Hid (SArr L n ∧ arrowM L n [] 0 (-1) = some (t, names, k, b) ∧ L = toksF s kkinds (s.size + 1) 0) := ⟨by rw [hLL]; exact hE.out, hM, by rw [hLL]; unfold lexT; rfl⟩
  rw [← hLL]
  clear hM hE hLL hG hok
  go_enter Tryz.func19, Tryz.ntmps19
  go_wp2_with fail
  refine (kinds_any _).mono ?_
  rintro e w1 ⟨rfl, rfl⟩
  have hkc : ∀ j, j < kkinds.length → ((w.alloc (.cells #[.int .i64 0, .int .i64 0, .string { data := #[] }, .int .i64 0, .int .i64 0] 27)).alloc (.cells #[.string { data := #[105, 110, 116] }, .string { data := #[98, 111, 111, 108] }] 9)).cell? ⟨w.heap.size + 1, j, none⟩ = some (.string (kkinds.getD j { data := #[] })) := by
    intro j hj
    have hj8 : j < 2 := hj
    have : j = 0 ∨ j = 1 := by omega
    rcases this with rfl | rfl <;> simp [kkinds]
  have HKC : Hid _ := hkc
  clear hkc
  go_wp2_with fail
  refine (tokens_any s kkinds h (by decide) _ (w.heap.size + 1) 2 (by simp) HKC.out).mono ?_
  rintro e w2 ⟨g, cap, rfl, hbel, hown⟩
  obtain ⟨hE, hM, hL⟩ := PK.out
  rw [← hL] at hown ⊢
  have hgl := (hown.lt g rfl).2
  have tk0 : ∀ i, i < L.length → w2.cell? ⟨g, i * 3, none⟩ = some (.string (tkAt L i).is) ∧ w2.cell? ⟨g, i * 3 + 1, none⟩ = some (.string (tkAt L i).s) ∧ w2.cell? ⟨g, i * 3 + 2, none⟩ = some (.int .i64 (tkAt L i).loc) := fun i hi => by
    have hf := flat_get L i hi
    rw [hown.cellAt (i * 3) (by omega), hown.cellAt (i * 3 + 1) (by omega), hown.cellAt (i * 3 + 2) (by omega)]
    exact hf
  have RD : Rd (w2.alloc (.cells #[.slice (some ⟨g, 0, none⟩) L.length cap, .int .i64 ((0 : Nat) : Int), .int .i64 (-1)] 81)) w2.heap.size g cap L 0 (-1) := by
    refine ⟨heap_alloc_new _ _, fun i hi => ?_, by omega⟩
    have := tk0 i hi
    rw [World.cell?_alloc_lt _ _ ⟨g, i * 3, none⟩ hgl, World.cell?_alloc_lt _ _ ⟨g, i * 3 + 1, none⟩ hgl, World.cell?_alloc_lt _ _ ⟨g, i * 3 + 2, none⟩ hgl]
    exact this
  have hsz2 := hbel.size
  have hF2 : w2.heap[w.heap.size]? = some (.cells #[.int .i64 0, .int .i64 0, .string { data := #[] }, .int .i64 0, .int .i64 0] 27 (0, 0)) := by
    rw [hbel.block w.heap.size (by simp; omega), Below.heap_alloc _ _ _ (by simp)]
    exact heap_alloc_new _ _
  have hK2 : Kp (fun _ => False) w w2 := by
    have h1 := ((Kp.refl (fun _ => False) w).alloc (.cells #[.int .i64 0, .int .i64 0, .string { data := #[] }, .int .i64 0, .int .i64 0] 27)).alloc (.cells #[.string { data := #[105, 110, 116] }, .string { data := #[98, 111, 111, 108] }] 9)
    exact h1.trans ⟨hbel.os, hbel.tape, hbel.output, hbel.size, fun q hq _ => hbel.block q hq⟩
  have hwsz : w.heap.size < w2.heap.size := lt_of_block hF2
  have HE : Hid (SArr L n) := hE
  have HM : Hid (arrowM L n [] 0 (-1) = some (t, names, k, b)) := hM
  clear PK hE hM hL tk0 hown hbel HKC
  have RD3 := RD.alloc (.cells #[.slice none 0 0] 34)
  have NM3 : Nm ((w2.alloc (.cells #[.slice (some ⟨g, 0, none⟩) L.length cap, .int .i64 ((0 : Nat) : Int), .int .i64 (-1)] 81)).alloc (.cells #[.slice none 0 0] 34)) (w2.heap.size + 1) (w2.heap.size + 1) [] := by
    refine ⟨⟨.slice none 0 0, ?_, World.ownsRow_nil _ _ _ _⟩, Nat.le_refl _⟩
    have := heap_alloc_new (w2.alloc (.cells #[.slice (some ⟨g, 0, none⟩) L.length cap, .int .i64 ((0 : Nat) : Int), .int .i64 (-1)] 81)) (.cells #[.slice none 0 0] 34)
    simpa using this
  have hK3 := (hK2.alloc (.cells #[.slice (some ⟨g, 0, none⟩) L.length cap, .int .i64 ((0 : Nat) : Int), .int .i64 (-1)] 81)).alloc (.cells #[.slice none 0 0] 34)
  have hF3 : ((w2.alloc (.cells #[.slice (some ⟨g, 0, none⟩) L.length cap, .int .i64 ((0 : Nat) : Int), .int .i64 (-1)] 81)).alloc (.cells #[.slice none 0 0] 34)).heap[w.heap.size]? = some (.cells #[.int .i64 0, .int .i64 0, .string { data := #[] }, .int .i64 0, .int .i64 0] 27 (0, 0)) := by
    rw [Below.heap_alloc _ _ _ (by simp; omega), Below.heap_alloc _ _ _ hwsz]; exact hF2
  clear RD hK2 hF2
  go_wp2_with fail
  refine Calls.mono (HE.out _ w2.heap.size g cap 0 (-1) (w2.heap.size + 1) (w2.heap.size + 1) [] t names k b RD3 hpos NM3 (by omega) (by omega) (NmOk.nil _) HM.out) ?_
  rintro e w4 ⟨p, rfl, hrep, E4⟩
  obtain ⟨pb, rfl⟩ := hrep.ptr
  have hF4 := E4.kp.blk hF3 (by show ¬ (w.heap.size = w2.heap.size ∨ w2.heap.size + 1 ≤ w.heap.size); omega)
  have hK4 := hK3.then E4.kp (fun q hq e => by have : q = w2.heap.size ∨ w2.heap.size + 1 ≤ q := e; omega)
  clear hF3 hK3 RD3 NM3 HE HM
  go_wp2_with fail
  refine (need_any w4 w2.heap.size g cap L k b _ E4.rd E4.kl hll).mono ?_
  rintro e w5 ⟨rfl, g5, r5⟩
  have hF5 := g5.blk hF4 (by show ¬ w.heap.size = w2.heap.size; omega)
  have hK5 := hK4.then g5 (fun q hq e => by have : q = w2.heap.size := e; omega)
  have hrep5 := TRep.keep (TKeep.rd E4.rd g5) t hrep
  obtain ⟨nv, hnb, hrow⟩ := (E4.nm.kp g5 (by omega)).ex
  have hkl4 := E4.kl
  have c2 := r5.c2
  obtain ⟨b2, hb2⟩ : ∃ b2, b2 = needB L { data := #[101, 110, 100] } k b := ⟨_, rfl⟩
  have HB2 : Hid (b2 = needB L { data := #[101, 110, 100] } k b) := hb2
  rw [← hb2] at c2
  have HN2 : Hid (b2 < 0 → b < 0) := by rw [hb2]; exact hneg.out
  clear hb2 hneg hF4 hK4 hrep g5 r5 E4
  have cnb : w5.cell? ⟨w2.heap.size + 1, 0, none⟩ = some nv := by simp [World.cell?, hnb]
  have d0 : w5.cell? ⟨w.heap.size, 0, none⟩ = some (.int .i64 0) := by simp [World.cell?, hF5]
  have d1 : w5.cell? ⟨w.heap.size, 1, none⟩ = some (.int .i64 0) := by simp [World.cell?, hF5]
  have d2 : w5.cell? ⟨w.heap.size, 2, none⟩ = some (.string { data := #[] }) := by simp [World.cell?, hF5]
  have d3 : w5.cell? ⟨w.heap.size, 3, none⟩ = some (.int .i64 0) := by simp [World.cell?, hF5]
  have d4 : w5.cell? ⟨w.heap.size, 4, none⟩ = some (.int .i64 0) := by simp [World.cell?, hF5]
  have fz : ∀ i, w5.frozen? ⟨w.heap.size, i, none⟩ = false := fun i => by simp [World.frozen?, hF5]
  by_cases hb : 0 ≤ b2
  · have hbb : ¬ b2 < 0 := by omega
    have hS := setF_blk hF5 (.int .i64 2) (.int .i64 b2) (.string { data := #[] }) (.int .i64 0) (.int .i64 0)
    have hSK := hK5.then (setF_kp w5 w.heap.size (.int .i64 2) (.int .i64 b2) (.string { data := #[] }) (.int .i64 0) (.int .i64 0)) (fun q hq e => by have : q = w.heap.size := e; omega)
    have HSS : Hid _ := hS
    have HSK : Hid _ := hSK
    clear hS hSK hrep5 hF5 hK5
    go_wp2
    go_region
    go_wp2
    change bodyPost _ _ _ _ _ (setF w5 w.heap.size (.int .i64 2) (.int .i64 b2) (.string { data := #[] }) (.int .i64 0) (.int .i64 0)).drew
    have hS := HSS.out
    have hSK := HSK.out
    generalize setF w5 w.heap.size (.int .i64 2) (.int .i64 b2) (.string { data := #[] }) (.int .i64 0) (.int .i64 0) = w6 at *
    clear d0 d1 d2 d3 d4 fz c2
    have d0 : w6.cell? ⟨w.heap.size, 0, none⟩ = some (.int .i64 2) := by simp [World.cell?, hS]
    have d1 : w6.cell? ⟨w.heap.size, 1, none⟩ = some (.int .i64 b2) := by simp [World.cell?, hS]
    have d2 : w6.cell? ⟨w.heap.size, 2, none⟩ = some (.string { data := #[] }) := by simp [World.cell?, hS]
    have d3 : w6.cell? ⟨w.heap.size, 3, none⟩ = some (.int .i64 0) := by simp [World.cell?, hS]
    have d4 : w6.cell? ⟨w.heap.size, 4, none⟩ = some (.int .i64 0) := by simp [World.cell?, hS]
    refine bodyPost_ret (v := .tuple #[.pointer none, .slice none 0 0, faultV 2 b2]) (by simp [results, Tryz.results19, go_sem, faultV, d0, d1, d2, d3, d4]) rfl ⟨hSK.drew, ?_, ?_, ?_⟩
    · intro _; rw [← HB2.out]
    · intro q; rw [← HB2.out] at q; omega
    · intro q; rw [← HB2.out] at q; omega
  · have hdp := hsz.out (HN2.out (by omega))
    have hdd := size_any t w5 (.pointer (some ⟨pb, 0, none⟩)) hrep5 hdp
    have HDD : Hid (Calls Tryz.prog 46 #[.pointer (some ⟨pb, 0, none⟩)] w5 fun e w' => e = .returned (.int .i64 (sz t)) ∧ w' = w5) := hdd
    obtain ⟨dd, hddx⟩ : ∃ dd, dd = sz t := ⟨_, rfl⟩
    rw [← hddx] at HDD
    have HDX : Hid (dd = sz t) := hddx
    clear hdd hddx hdp hsz HN2
    go_wp2_with fail
    refine Calls.mono HDD.out ?_
    rintro e w' ⟨rfl, hww⟩
    rw [hww]
    clear hww w'
    by_cases h40 : 120 < dd
    · have hS := setF_blk hF5 (.int .i64 8) (.int .i64 0) (.string { data := #[] }) (.int .i64 0) (.int .i64 0)
      have hSK := hK5.then (setF_kp w5 w.heap.size (.int .i64 8) (.int .i64 0) (.string { data := #[] }) (.int .i64 0) (.int .i64 0)) (fun q hq e => by have : q = w.heap.size := e; omega)
      have HSS : Hid _ := hS
      have HSK : Hid _ := hSK
      clear hS hSK hrep5 hF5 hK5
      go_wp2
      change bodyPost _ _ _ _ _ (setF w5 w.heap.size (.int .i64 8) (.int .i64 0) (.string { data := #[] }) (.int .i64 0) (.int .i64 0))
      have hS := HSS.out
      have hSK := HSK.out
      generalize setF w5 w.heap.size (.int .i64 8) (.int .i64 0) (.string { data := #[] }) (.int .i64 0) (.int .i64 0) = w6 at *
      clear d0 d1 d2 d3 d4 fz c2
      have d0 : w6.cell? ⟨w.heap.size, 0, none⟩ = some (.int .i64 8) := by simp [World.cell?, hS]
      have d1 : w6.cell? ⟨w.heap.size, 1, none⟩ = some (.int .i64 0) := by simp [World.cell?, hS]
      have d2 : w6.cell? ⟨w.heap.size, 2, none⟩ = some (.string { data := #[] }) := by simp [World.cell?, hS]
      have d3 : w6.cell? ⟨w.heap.size, 3, none⟩ = some (.int .i64 0) := by simp [World.cell?, hS]
      have d4 : w6.cell? ⟨w.heap.size, 4, none⟩ = some (.int .i64 0) := by simp [World.cell?, hS]
      refine bodyPost_ret (v := .tuple #[.pointer none, .slice none 0 0, faultV 8 0]) (by simp [results, Tryz.results19, go_sem, faultV, d0, d1, d2, d3, d4]) rfl ⟨hSK, ?_, ?_, ?_⟩
      · intro q; rw [← HB2.out] at q; omega
      · intro _ _; rfl
      · intro _ q; rw [← HDX.out] at q; omega
    · have hS := setF_blk hF5 (.int .i64 0) (.int .i64 0) (.string { data := #[] }) (.int .i64 0) (.int .i64 0)
      have hSK := hK5.then (setF_kp w5 w.heap.size (.int .i64 0) (.int .i64 0) (.string { data := #[] }) (.int .i64 0) (.int .i64 0)) (fun q hq e => by have : q = w.heap.size := e; omega)
      have hKs := setF_kp w5 w.heap.size (.int .i64 0) (.int .i64 0) (.string { data := #[] }) (.int .i64 0) (.int .i64 0)
      have hSR : TRep (setF w5 w.heap.size (.int .i64 0) (.int .i64 0) (.string { data := #[] }) (.int .i64 0) (.int .i64 0)) t (.pointer (some ⟨pb, 0, none⟩)) := TRep.keep (TKeep.kp hKs (fun q hq cs e f hc => by
        have hq : q = w.heap.size := hq
        subst hq
        rw [hF5] at hc
        simp at hc
        obtain ⟨_, rfl, _⟩ := hc
        decide)) t hrep5
      have hNR : (setF w5 w.heap.size (.int .i64 0) (.int .i64 0) (.string { data := #[] }) (.int .i64 0) (.int .i64 0)).ownsRow w.heap.size 9 1 nv names.length (names.map Value.string) := ownsRow_base (ownsRow_same hrow (fun q e => hKs.block q (hrow.lt q e).2 (fun e2 => by have e2 : q = w.heap.size := e2; have := (hrow.lt q e).1; omega))) (by omega)
      have HSS : Hid _ := hS
      have HSK : Hid _ := hSK
      have HSR : Hid _ := hSR
      have HNR : Hid _ := hNR
      obtain ⟨ao, capn, rfl, _⟩ := row_form0 hrow
      clear hS hSK hSR hNR hKs hrep5 hF5 hK5 hrow hnb
      go_wp2
      go_region
      go_wp2
      change bodyPost _ _ _ _ _ (setF w5 w.heap.size (.int .i64 0) (.int .i64 0) (.string { data := #[] }) (.int .i64 0) (.int .i64 0)).drew
      have hS := HSS.out
      have hSK := HSK.out
      have hSR := HSR.out
      have hNR := HNR.out
      generalize setF w5 w.heap.size (.int .i64 0) (.int .i64 0) (.string { data := #[] }) (.int .i64 0) (.int .i64 0) = w6 at *
      clear d0 d1 d2 d3 d4 fz c2
      have d0 : w6.cell? ⟨w.heap.size, 0, none⟩ = some (.int .i64 0) := by simp [World.cell?, hS]
      have d1 : w6.cell? ⟨w.heap.size, 1, none⟩ = some (.int .i64 0) := by simp [World.cell?, hS]
      have d2 : w6.cell? ⟨w.heap.size, 2, none⟩ = some (.string { data := #[] }) := by simp [World.cell?, hS]
      have d3 : w6.cell? ⟨w.heap.size, 3, none⟩ = some (.int .i64 0) := by simp [World.cell?, hS]
      have d4 : w6.cell? ⟨w.heap.size, 4, none⟩ = some (.int .i64 0) := by simp [World.cell?, hS]
      refine bodyPost_ret (v := .tuple #[.pointer (some ⟨pb, 0, none⟩), .slice ao names.length capn, faultV 0 0]) (by simp [results, Tryz.results19, go_sem, faultV, d0, d1, d2, d3, d4]) rfl ⟨hSK.drew, ?_, ?_, ?_⟩
      · intro q; rw [← HB2.out] at q; omega
      · intro _ q; rw [← HDX.out] at q; omega
      · intro _ _; exact ⟨_, _, rfl, TRep.keep (TKeep.drew _) t hSR, ownsRow_same hNR (fun _ _ => rfl)⟩
end Go.Proofs.YtleenphlgbklmaaGreatDoor
