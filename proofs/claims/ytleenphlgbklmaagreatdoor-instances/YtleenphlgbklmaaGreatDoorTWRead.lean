import Derived.Test.YtleenphlgbklmaaGreatDoorTWTok
import Derived.Test.YtleenphlgbklmaaGreatDoorTWTake
import Derived.Test.YtleenphlgbklmaaGreatDoorTRefGood
set_option linter.unusedVariables false
set_option linter.unusedSimpArgs false
namespace Go.Proofs.YtleenphlgbklmaaGreatDoor
open Go.RowKit

def kwords : List ByteArray := [{ data := #[102, 117, 110] }, { data := #[108, 101, 116] }, { data := #[114, 101, 99] }, { data := #[97, 110, 100] }, { data := #[105, 110] }, { data := #[105, 102] }, { data := #[116, 104, 101, 110] }, { data := #[101, 108, 115, 101] }]

theorem words_any (w : World) : Calls Tryz.prog 39 #[] w fun e w' => e = .returned (.slice (some ⟨w.heap.size, 0, none⟩) 8 8) ∧ w' = w.alloc (.cells #[.string { data := #[102, 117, 110] }, .string { data := #[108, 101, 116] }, .string { data := #[114, 101, 99] }, .string { data := #[97, 110, 100] }, .string { data := #[105, 110] }, .string { data := #[105, 102] }, .string { data := #[116, 104, 101, 110] }, .string { data := #[101, 108, 115, 101] }] 9) := by
  go_enter Tryz.func39, Tryz.ntmps39
  go_wp2
  go_ret
  exact ⟨rfl, rfl⟩

theorem flat_get (l : List Tk) (i : Nat) (h : i < l.length) : (flat l)[i * 3]? = some (.string (tkAt l i).is) ∧ (flat l)[i * 3 + 1]? = some (.string (tkAt l i).s) ∧ (flat l)[i * 3 + 2]? = some (.int .i64 (tkAt l i).loc) := by
  induction l generalizing i with
  | nil => simp at h
  | cons t l ih =>
    cases i with
    | zero => simp [flat, tkCells, tkAt]
    | succ i =>
      have := ih i (by simpa using h)
      rw [tkAt_succ]
      have e : flat (t :: l) = tkCells t ++ flat l := by simp [flat]
      rw [e, show (i + 1) * 3 = i * 3 + 3 from by omega]
      simpa [tkCells] using this

theorem Kp.then {S T : Nat → Prop} {a b c : World} (h : Kp S a b) (k : Kp T b c) (hT : ∀ q, q < a.heap.size → T q → S q) : Kp S a c :=
  ⟨k.os.trans h.os, k.tape.trans h.tape, k.output.trans h.output, Nat.le_trans h.size k.size, fun q hq hs => (k.block q (Nat.lt_of_lt_of_le hq h.size) (fun e => hs (hT q hq e))).trans (h.block q hq hs)⟩

def setF (w : World) (fb : Nat) (v0 v1 v2 v3 v4 : Value) : World := ((((w.setCell ⟨fb, 0, none⟩ v0).setCell ⟨fb, 1, none⟩ v1).setCell ⟨fb, 2, none⟩ v2).setCell ⟨fb, 3, none⟩ v3).setCell ⟨fb, 4, none⟩ v4
theorem setF_blk {w : World} {fb : Nat} {a b c d e : Value} {t : TypeId} (h : w.heap[fb]? = some (.cells #[a, b, c, d, e] t (0, 0))) (v0 v1 v2 v3 v4 : Value) : (setF w fb v0 v1 v2 v3 v4).heap[fb]? = some (.cells #[v0, v1, v2, v3, v4] t (0, 0)) := by
  simp [setF, World.setCell, h, Array.getElem?_modify]
theorem setF_kp (w : World) (fb : Nat) (v0 v1 v2 v3 v4 : Value) : Kp (· = fb) w (setF w fb v0 v1 v2 v3 v4) :=
  (((((Kp.refl (· = fb) w).setCell _ _ (fun _ => rfl)).setCell _ _ (fun _ => rfl)).setCell _ _ (fun _ => rfl)).setCell _ _ (fun _ => rfl)).setCell _ _ (fun _ => rfl)

def faultV (what at_ : Int) : Value := .agg #[.int .i64 what, .int .i64 at_, .string { data := #[] }, .int .i64 0, .int .i64 0]

set_option maxHeartbeats 1000000 in
theorem read_long (s : ByteArray) (w : World) (h : 300 < s.size) (hm : s.size ≤ 9223372036854775807) :
    Calls Tryz.prog 15 #[.string s] w fun e w' => e = .returned (.tuple #[.pointer none, faultV 1 0]) ∧ Kp (fun _ => False) w w' := by
  go_enter Tryz.func15, Tryz.ntmps15
  go_wp2
  exact bodyPost_ret (v := .tuple #[.pointer none, faultV 1 0]) (by simp [results, Tryz.results15, go_sem, faultV]) rfl ⟨rfl, (Kp.refl _ _).alloc _⟩

/-- the document's tokens of a text, its reading: the expression, the place behind it, the fault. -/
def lexR (s : ByteArray) : List Tk := toksF s kwords (s.size + 1) 0

set_option maxHeartbeats 4000000 in
theorem read_any (s : ByteArray) (w : World) (h : s.size ≤ 300) (n : Nat) (hn : n ≤ 50000) (x : X) (k : Nat) (b : Int) (hM : expM (lexR s) n 0 (-1) = some (x, k, b)) (hdp : b < 0 → dp x ≤ 1000000) (hneg : needB (lexR s) { data := #[101, 110, 100] } k b < 0 → b < 0) :
    Calls Tryz.prog 15 #[.string s] w fun e w' => Kp (fun _ => False) w w' ∧
      (0 ≤ needB (lexR s) { data := #[101, 110, 100] } k b → e = .returned (.tuple #[.pointer none, faultV 2 (needB (lexR s) { data := #[101, 110, 100] } k b)])) ∧
      (needB (lexR s) { data := #[101, 110, 100] } k b < 0 → 40 < dp x → e = .returned (.tuple #[.pointer none, faultV 3 0])) ∧
      (needB (lexR s) { data := #[101, 110, 100] } k b < 0 → dp x ≤ 40 → ∃ p fs, e = .returned (.tuple #[p, faultV 0 0]) ∧ Rep w' x p fs) := by
  have hll : (lexR s).length ≤ 1000 := by
    have := toks_len s kwords (s.size + 1) 0
    unfold lexR
    omega
  have hG : Good (lexR s) := by unfold lexR; exact toks_good s kwords
  have hE : Hid (SExp (lexR s) n) := (ref_all (lexR s) hll hG n hn).1
  have hpos : 0 < (lexR s).length := by unfold lexR; exact toks_pos s kwords
  obtain ⟨L, hLL⟩ : ∃ L, L = lexR s := ⟨_, rfl⟩
  rw [← hLL] at hll hpos hM hneg
  have PK : Hid (L.length ≤ 1000 ∧ 0 < L.length ∧ SExp L n ∧ expM L n 0 (-1) = some (x, k, b) ∧ (b < 0 → dp x ≤ 1000000) ∧ (needB L { data := #[101, 110, 100] } k b < 0 → b < 0) ∧ L = toksF s kwords (s.size + 1) 0 ∧ n ≤ 50000) :=
    ⟨hll, hpos, by rw [hLL]; exact hE.out, hM, hdp, hneg, by rw [hLL]; unfold lexR; rfl, hn⟩
  rw [← hLL]
  clear hll hpos hM hneg hdp hE hLL hn hG
  go_enter Tryz.func15, Tryz.ntmps15
  go_wp2_with fail
  refine (words_any _).mono ?_
  rintro e w1 ⟨rfl, rfl⟩
  have hkc : ∀ j, j < kwords.length → ((w.alloc (.cells #[.int .i64 0, .int .i64 0, .string { data := #[] }, .int .i64 0, .int .i64 0] 27)).alloc (.cells #[.string { data := #[102, 117, 110] }, .string { data := #[108, 101, 116] }, .string { data := #[114, 101, 99] }, .string { data := #[97, 110, 100] }, .string { data := #[105, 110] }, .string { data := #[105, 102] }, .string { data := #[116, 104, 101, 110] }, .string { data := #[101, 108, 115, 101] }] 9)).cell? ⟨w.heap.size + 1, j, none⟩ = some (.string (kwords.getD j { data := #[] })) := by
    intro j hj
    have hj8 : j < 8 := hj
    have : j = 0 ∨ j = 1 ∨ j = 2 ∨ j = 3 ∨ j = 4 ∨ j = 5 ∨ j = 6 ∨ j = 7 := by omega
    rcases this with rfl | rfl | rfl | rfl | rfl | rfl | rfl | rfl <;> simp [kwords]
  have HKC : Hid _ := hkc
  clear hkc
  go_wp2_with fail
  refine (tokens_any s kwords h (by decide) _ (w.heap.size + 1) 8 (by simp) HKC.out).mono ?_
  rintro e w2 ⟨g, cap, rfl, hbel, hown⟩
  obtain ⟨hll, hpos, hE, hM, hdp, hneg, hL, hn⟩ := PK.out
  rw [← hL] at hown ⊢
  have hgl := (hown.lt g rfl).2
  have tk0 : ∀ i, i < L.length → w2.cell? ⟨g, i * 3, none⟩ = some (.string (tkAt L i).is) ∧ w2.cell? ⟨g, i * 3 + 1, none⟩ = some (.string (tkAt L i).s) ∧ w2.cell? ⟨g, i * 3 + 2, none⟩ = some (.int .i64 (tkAt L i).loc) := fun i hi => by
    have hf := flat_get L i hi
    rw [hown.cellAt (i * 3) (by omega), hown.cellAt (i * 3 + 1) (by omega), hown.cellAt (i * 3 + 2) (by omega)]
    exact hf
  have RD : Rd (w2.alloc (.cells #[.slice (some ⟨g, 0, none⟩) L.length cap, .int .i64 ((0 : Nat) : Int), .int .i64 (-1)] 81)) w2.heap.size g cap L 0 (-1) := by
    refine ⟨heap_alloc_new _ _, fun i hi => ?_, by omega⟩
    have := tk0 i hi
    rw [World.cell?_alloc_lt _ _ ⟨g, i * 3, none⟩ hgl, World.cell?_alloc_lt _ _ ⟨g, i * 3 + 1, none⟩ hgl, World.cell?_alloc_lt _ _ ⟨g, i * 3 + 2, none⟩ hgl]
    exact this
  have hsz2 := hbel.size
  have hF2 : w2.heap[w.heap.size]? = some (.cells #[.int .i64 0, .int .i64 0, .string { data := #[] }, .int .i64 0, .int .i64 0] 27 (0, 0)) := by
    rw [hbel.block w.heap.size (by simp; omega), Below.heap_alloc _ _ _ (by simp)]
    exact heap_alloc_new _ _
  have hK2 : Kp (fun _ => False) w w2 := by
    have h1 := ((Kp.refl (fun _ => False) w).alloc (.cells #[.int .i64 0, .int .i64 0, .string { data := #[] }, .int .i64 0, .int .i64 0] 27)).alloc (.cells #[.string { data := #[102, 117, 110] }, .string { data := #[108, 101, 116] }, .string { data := #[114, 101, 99] }, .string { data := #[97, 110, 100] }, .string { data := #[105, 110] }, .string { data := #[105, 102] }, .string { data := #[116, 104, 101, 110] }, .string { data := #[101, 108, 115, 101] }] 9)
    exact h1.trans ⟨hbel.os, hbel.tape, hbel.output, hbel.size, fun q hq _ => hbel.block q hq⟩
  have hwsz : w.heap.size < w2.heap.size := lt_of_block hF2
  have hF3 : (w2.alloc (.cells #[.slice (some ⟨g, 0, none⟩) L.length cap, .int .i64 ((0 : Nat) : Int), .int .i64 (-1)] 81)).heap[w.heap.size]? = some (.cells #[.int .i64 0, .int .i64 0, .string { data := #[] }, .int .i64 0, .int .i64 0] 27 (0, 0)) := (Below.heap_alloc _ _ _ hwsz).trans hF2
  have hK3 := hK2.alloc (.cells #[.slice (some ⟨g, 0, none⟩) L.length cap, .int .i64 ((0 : Nat) : Int), .int .i64 (-1)] 81)
  have HE : Hid (SExp L n) := hE
  have HM : Hid (expM L n 0 (-1) = some (x, k, b)) := hM
  have HD : Hid (b < 0 → dp x ≤ 1000000) := hdp
  have HN : Hid (needB L { data := #[101, 110, 100] } k b < 0 → b < 0) := hneg
  clear PK hE hM hdp hneg hL hn tk0 hown hbel HKC hF2 hK2
  go_wp2_with fail
  refine Calls.mono (HE.out _ w2.heap.size g cap 0 (-1) x k b RD hpos HM.out) ?_
  rintro e w4 ⟨xb, fs, rfl, hrep, hfl, g4, r4, hk4⟩
  have hF4 := g4.blk hF3 (by show ¬ w.heap.size = w2.heap.size; omega)
  have hK4 := hK3.then g4 (fun q hq e => by have : q = w2.heap.size := e; omega)
  clear hF3 hK3 RD g4 HE HM
  go_wp2_with fail
  refine (need_any w4 w2.heap.size g cap L k b _ r4 hk4 hll).mono ?_
  rintro e w5 ⟨rfl, g5, r5⟩
  have hF5 := g5.blk hF4 (by show ¬ w.heap.size = w2.heap.size; omega)
  have hK5 := hK4.then g5 (fun q hq e => by have : q = w2.heap.size := e; omega)
  have hrep5 := Rep.same x hrep (w' := w5) (fun q hq => g5.block q (Rep.lt x hrep q hq) (fun e => by have h9 : q = w2.heap.size := e; have := hfl q hq; simp at this; omega))
  have c2 := r5.c2
  obtain ⟨b2, hb2⟩ : ∃ b2, b2 = needB L { data := #[101, 110, 100] } k b := ⟨_, rfl⟩
  have HB2 : Hid (b2 = needB L { data := #[101, 110, 100] } k b) := hb2
  rw [← hb2] at c2
  have HN2 : Hid (b2 < 0 → b < 0) := by rw [hb2]; exact HN.out
  clear hb2 HN hF4 hK4 hrep g5 r4 r5
  have d0 : w5.cell? ⟨w.heap.size, 0, none⟩ = some (.int .i64 0) := by simp [World.cell?, hF5]
  have d1 : w5.cell? ⟨w.heap.size, 1, none⟩ = some (.int .i64 0) := by simp [World.cell?, hF5]
  have d2 : w5.cell? ⟨w.heap.size, 2, none⟩ = some (.string { data := #[] }) := by simp [World.cell?, hF5]
  have d3 : w5.cell? ⟨w.heap.size, 3, none⟩ = some (.int .i64 0) := by simp [World.cell?, hF5]
  have d4 : w5.cell? ⟨w.heap.size, 4, none⟩ = some (.int .i64 0) := by simp [World.cell?, hF5]
  have fz : ∀ i, w5.frozen? ⟨w.heap.size, i, none⟩ = false := fun i => by simp [World.frozen?, hF5]
  by_cases hb : 0 ≤ b2
  · have hbb : ¬ b2 < 0 := by omega
    have hS := setF_blk hF5 (.int .i64 2) (.int .i64 b2) (.string { data := #[] }) (.int .i64 0) (.int .i64 0)
    have hSK := hK5.then (setF_kp w5 w.heap.size (.int .i64 2) (.int .i64 b2) (.string { data := #[] }) (.int .i64 0) (.int .i64 0)) (fun q hq e => by have : q = w.heap.size := e; omega)
    have hSR := Rep.same x hrep5 (w' := setF w5 w.heap.size (.int .i64 2) (.int .i64 b2) (.string { data := #[] }) (.int .i64 0) (.int .i64 0)) (fun q hq => (setF_kp w5 w.heap.size _ _ _ _ _).block q (Rep.lt x hrep5 q hq) (fun e => by have h9 : q = w.heap.size := e; have := hfl q hq; simp at this; omega))
    have HSS : Hid _ := hS
    have HSK : Hid _ := hSK
    have HSR : Hid _ := hSR
    clear hS hSK hSR hrep5 hF5 hK5
    go_wp2
    go_region
    go_wp2
    change bodyPost _ _ _ _ _ (setF w5 w.heap.size (.int .i64 2) (.int .i64 b2) (.string { data := #[] }) (.int .i64 0) (.int .i64 0)).drew
    have hS := HSS.out
    have hSK := HSK.out
    generalize setF w5 w.heap.size (.int .i64 2) (.int .i64 b2) (.string { data := #[] }) (.int .i64 0) (.int .i64 0) = w6 at *
    clear d0 d1 d2 d3 d4 fz c2
    have d0 : w6.cell? ⟨w.heap.size, 0, none⟩ = some (.int .i64 2) := by simp [World.cell?, hS]
    have d1 : w6.cell? ⟨w.heap.size, 1, none⟩ = some (.int .i64 b2) := by simp [World.cell?, hS]
    have d2 : w6.cell? ⟨w.heap.size, 2, none⟩ = some (.string { data := #[] }) := by simp [World.cell?, hS]
    have d3 : w6.cell? ⟨w.heap.size, 3, none⟩ = some (.int .i64 0) := by simp [World.cell?, hS]
    have d4 : w6.cell? ⟨w.heap.size, 4, none⟩ = some (.int .i64 0) := by simp [World.cell?, hS]
    refine bodyPost_ret (v := .tuple #[.pointer none, faultV 2 b2]) (by simp [results, Tryz.results15, go_sem, faultV, d0, d1, d2, d3, d4]) rfl ⟨hSK.drew, ?_, ?_, ?_⟩
    · intro _; rw [← HB2.out]
    · intro q; rw [← HB2.out] at q; omega
    · intro q; rw [← HB2.out] at q; omega
  · have hdp := HD.out (HN2.out (by omega))
    have hdd := deep_any x w5 (.pointer (some ⟨xb, 0, none⟩)) fs hrep5 hdp
    have HDD : Hid (Calls Tryz.prog 42 #[.pointer (some ⟨xb, 0, none⟩)] w5 fun e w' => e = .returned (.int .i64 (dp x)) ∧ w' = w5) := hdd
    obtain ⟨dd, hddx⟩ : ∃ dd, dd = dp x := ⟨_, rfl⟩
    rw [← hddx] at HDD
    have HDX : Hid (dd = dp x) := hddx
    clear hdd hddx hdp HD HN2
    go_wp2_with fail
    refine Calls.mono HDD.out ?_
    rintro e w' ⟨rfl, hww⟩
    rw [hww]
    clear hww w'
    by_cases h40 : 40 < dd
    · have hS := setF_blk hF5 (.int .i64 3) (.int .i64 0) (.string { data := #[] }) (.int .i64 0) (.int .i64 0)
      have hSK := hK5.then (setF_kp w5 w.heap.size (.int .i64 3) (.int .i64 0) (.string { data := #[] }) (.int .i64 0) (.int .i64 0)) (fun q hq e => by have : q = w.heap.size := e; omega)
      have hSR := Rep.same x hrep5 (w' := setF w5 w.heap.size (.int .i64 3) (.int .i64 0) (.string { data := #[] }) (.int .i64 0) (.int .i64 0)) (fun q hq => (setF_kp w5 w.heap.size _ _ _ _ _).block q (Rep.lt x hrep5 q hq) (fun e => by have h9 : q = w.heap.size := e; have := hfl q hq; simp at this; omega))
      have HSS : Hid _ := hS
      have HSK : Hid _ := hSK
      have HSR : Hid _ := hSR
      clear hS hSK hSR hrep5 hF5 hK5
      go_wp2
      change bodyPost _ _ _ _ _ (setF w5 w.heap.size (.int .i64 3) (.int .i64 0) (.string { data := #[] }) (.int .i64 0) (.int .i64 0))
      have hS := HSS.out
      have hSK := HSK.out
      have hSR := HSR.out
      generalize setF w5 w.heap.size (.int .i64 3) (.int .i64 0) (.string { data := #[] }) (.int .i64 0) (.int .i64 0) = w6 at *
      clear d0 d1 d2 d3 d4 fz c2
      have d0 : w6.cell? ⟨w.heap.size, 0, none⟩ = some (.int .i64 3) := by simp [World.cell?, hS]
      have d1 : w6.cell? ⟨w.heap.size, 1, none⟩ = some (.int .i64 0) := by simp [World.cell?, hS]
      have d2 : w6.cell? ⟨w.heap.size, 2, none⟩ = some (.string { data := #[] }) := by simp [World.cell?, hS]
      have d3 : w6.cell? ⟨w.heap.size, 3, none⟩ = some (.int .i64 0) := by simp [World.cell?, hS]
      have d4 : w6.cell? ⟨w.heap.size, 4, none⟩ = some (.int .i64 0) := by simp [World.cell?, hS]
      refine bodyPost_ret (v := .tuple #[.pointer none, faultV 3 0]) (by simp [results, Tryz.results15, go_sem, faultV, d0, d1, d2, d3, d4]) rfl ⟨hSK, ?_, ?_, ?_⟩
      · intro q; rw [← HB2.out] at q; omega
      · intro _ _; rfl
      · intro _ q; rw [← HDX.out] at q; omega
    · have hS := setF_blk hF5 (.int .i64 0) (.int .i64 0) (.string { data := #[] }) (.int .i64 0) (.int .i64 0)
      have hSK := hK5.then (setF_kp w5 w.heap.size (.int .i64 0) (.int .i64 0) (.string { data := #[] }) (.int .i64 0) (.int .i64 0)) (fun q hq e => by have : q = w.heap.size := e; omega)
      have hSR := Rep.same x hrep5 (w' := setF w5 w.heap.size (.int .i64 0) (.int .i64 0) (.string { data := #[] }) (.int .i64 0) (.int .i64 0)) (fun q hq => (setF_kp w5 w.heap.size _ _ _ _ _).block q (Rep.lt x hrep5 q hq) (fun e => by have h9 : q = w.heap.size := e; have := hfl q hq; simp at this; omega))
      have HSS : Hid _ := hS
      have HSK : Hid _ := hSK
      have HSR : Hid _ := hSR
      clear hS hSK hSR hrep5 hF5 hK5
      go_wp2
      change bodyPost _ _ _ _ _ (setF w5 w.heap.size (.int .i64 0) (.int .i64 0) (.string { data := #[] }) (.int .i64 0) (.int .i64 0))
      have hS := HSS.out
      have hSK := HSK.out
      have hSR := HSR.out
      generalize setF w5 w.heap.size (.int .i64 0) (.int .i64 0) (.string { data := #[] }) (.int .i64 0) (.int .i64 0) = w6 at *
      clear d0 d1 d2 d3 d4 fz c2
      have d0 : w6.cell? ⟨w.heap.size, 0, none⟩ = some (.int .i64 0) := by simp [World.cell?, hS]
      have d1 : w6.cell? ⟨w.heap.size, 1, none⟩ = some (.int .i64 0) := by simp [World.cell?, hS]
      have d2 : w6.cell? ⟨w.heap.size, 2, none⟩ = some (.string { data := #[] }) := by simp [World.cell?, hS]
      have d3 : w6.cell? ⟨w.heap.size, 3, none⟩ = some (.int .i64 0) := by simp [World.cell?, hS]
      have d4 : w6.cell? ⟨w.heap.size, 4, none⟩ = some (.int .i64 0) := by simp [World.cell?, hS]
      refine bodyPost_ret (v := .tuple #[.pointer (some ⟨xb, 0, none⟩), faultV 0 0]) (by simp [results, Tryz.results15, go_sem, faultV, d0, d1, d2, d3, d4]) rfl ⟨hSK, ?_, ?_, ?_⟩
      · intro q; rw [← HB2.out] at q; omega
      · intro _ q; rw [← HDX.out] at q; omega
      · intro _ _; exact ⟨_, fs, rfl, hSR⟩
end Go.Proofs.YtleenphlgbklmaaGreatDoor
