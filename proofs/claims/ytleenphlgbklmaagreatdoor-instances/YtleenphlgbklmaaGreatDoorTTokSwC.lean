import Derived.Test.YtleenphlgbklmaaGreatDoorTTokBase
set_option linter.unusedVariables false
set_option linter.unusedSimpArgs false
namespace Go.Proofs.YtleenphlgbklmaaGreatDoor
open Go.RowKit

set_option maxRecDepth 1000000 in
set_option maxHeartbeats 20000000 in
theorem sw_sign44 (s : ByteArray) (i : Nat) (hlt : i < s.size) (hl : lowI (chr s i) = false) (hf : figI (chr s i) = false) (ha : ¬ (chr s i = 45 ∧ i + 1 < s.size ∧ chr s (i + 1) = 62)) (hsg : isSign (chr s i) = true) (e : chr s i = 44) : SwS s i := by
  intro w0 w1 K0 Q q1 q2 q3 q4 q5 q9 q10 q11 q12 q13 q14 q15 q16 q17 q18 q19 q20 q21 q22 q23 q24 q25 q26 q27 q28 q29 q30 q31 q32 q33 q34 q35 q36 q37 q38 q39 q40 q41 q42 q43 q44 q45 q46 q47 q48 q49 q50 q51 q52 q53 q54 q55 q56 q57 q58 q59 q60 q61 q62 q63 q64 q65 q66 q67 q68 q69 q70 q71 q72 q73 q74 q75 q76 q77 q78 q79 q80 q81 q82 q83 q84 q85 q86 q87 q88 q89 q90 q91 q92 q93 q94 q95 q96 q97 q98 q99 q100 q101 q102 q103 q104 q105 q106 q107 q108 q109 q110 q111 q112 q113 q114 q115 q116 q117 q118 q119 q120 q121 q122 q123 q124 q125 q126 q127 q128 q129 q130 q131 q132 q133 q134 q135 q136 q137 q138 q139 q140 q141 q142 q143 q144 q145 q146 q147 q148 q149 q150 q151 q152 q153 q154 q155 q156 q157 q158 q159 q160 q161 q162 q163 q164 q165 q166 q167 q168 q169 q170 q171 q172 q173 q174 q175 q176 hs hri hT hB1 hK0
  refine wp_cut (fun a wx => ∃ u8 : Value, ∃ u10 : Value, ∃ u34 : Value, ∃ u35 : Value, ∃ u36 : Value, ∃ u37 : Value, ∃ u38 : Value, ∃ u39 : Value, ∃ u40 : Value, ∃ u41 : Value, ∃ u42 : Value, ∃ u43 : Value, ∃ u44 : Value, ∃ u45 : Value, ∃ u46 : Value, ∃ u47 : Value, ∃ u48 : Value, ∃ u49 : Value, ∃ u50 : Value, ∃ u51 : Value, ∃ u52 : Value, ∃ u53 : Value, ∃ u54 : Value, ∃ u55 : Value, ∃ u56 : Value, ∃ u57 : Value, ∃ u58 : Value, ∃ u59 : Value, ∃ u60 : Value, ∃ u61 : Value, ∃ u62 : Value, ∃ u63 : Value, ∃ u64 : Value, ∃ u65 : Value, ∃ u66 : Value, ∃ u67 : Value, ∃ u68 : Value, ∃ u69 : Value, ∃ u70 : Value, ∃ u71 : Value, ∃ u72 : Value, ∃ u73 : Value, ∃ u74 : Value, ∃ u75 : Value, ∃ u76 : Value, ∃ u77 : Value, ∃ u78 : Value, ∃ u79 : Value, ∃ u80 : Value, ∃ u81 : Value, ∃ u82 : Value, ∃ u83 : Value, ∃ u84 : Value, ∃ u85 : Value, ∃ u86 : Value, ∃ u87 : Value, ∃ u88 : Value, ∃ u89 : Value, ∃ u90 : Value, ∃ u91 : Value, ∃ u92 : Value, ∃ u93 : Value, ∃ u94 : Value, ∃ u95 : Value, ∃ u96 : Value, ∃ u97 : Value, ∃ u98 : Value, ∃ u99 : Value, ∃ u100 : Value, ∃ u101 : Value, ∃ u102 : Value, ∃ u103 : Value, ∃ u104 : Value, ∃ u105 : Value, ∃ u106 : Value, ∃ u107 : Value, ∃ u108 : Value, ∃ u109 : Value, ∃ u110 : Value, ∃ u111 : Value, ∃ u112 : Value, ∃ u113 : Value, ∃ u114 : Value, ∃ u115 : Value, ∃ u116 : Value, ∃ u117 : Value, ∃ u118 : Value, ∃ u119 : Value, ∃ u120 : Value, ∃ u121 : Value, ∃ u122 : Value, ∃ u123 : Value, ∃ u124 : Value, (u8 = .int .i64 (clsK s i : Nat) ∧ wx.heap[w0.heap.size]? = some (.cells #[.string (clsI s i), .string { data := #[] }, .int .i64 i] 151 (0, 0)) ∧ Below w0.heap.size w0 wx) ∧ a = ⟨#[.string s, q1, q2, q3, q4, q5, .int .i64 i, .pointer (some ⟨w0.heap.size, 0, none⟩), u8, q9, u10, q11, q12, q13, q14, q15, q16, q17, q18, q19, q20, q21, q22, q23, q24, q25, q26, q27, q28, q29, q30, q31, q32, q33, u34, u35, u36, u37, u38, u39, u40, u41, u42, u43, u44, u45, u46, u47, u48, u49, u50, u51, u52, u53, u54, u55, u56, u57, u58, u59, u60, u61, u62, u63, u64, u65, u66, u67, u68, u69, u70, u71, u72, u73, u74, u75, u76, u77, u78, u79, u80, u81, u82, u83, u84, u85, u86, u87, u88, u89, u90, u91, u92, u93, u94, u95, u96, u97, u98, u99, u100, u101, u102, u103, u104, u105, u106, u107, u108, u109, u110, u111, u112, u113, u114, u115, u116, u117, u118, u119, u120, u121, u122, u123, u124, q125, q126, q127, q128, q129, q130, q131, q132, q133, q134, q135, q136, q137, q138, q139, q140, q141, q142, q143, q144, q145, q146, q147, q148, q149, q150, q151, q152, q153, q154, q155, q156, q157, q158, q159, q160, q161, q162, q163, q164, q165, q166, q167, q168, q169, q170, q171, q172, q173, q174, q175, q176], []⟩) ?_ ?_
  · intro a wx h
    obtain ⟨u8, h⟩ := h
    obtain ⟨u10, h⟩ := h
    obtain ⟨u34, h⟩ := h
    obtain ⟨u35, h⟩ := h
    obtain ⟨u36, h⟩ := h
    obtain ⟨u37, h⟩ := h
    obtain ⟨u38, h⟩ := h
    obtain ⟨u39, h⟩ := h
    obtain ⟨u40, h⟩ := h
    obtain ⟨u41, h⟩ := h
    obtain ⟨u42, h⟩ := h
    obtain ⟨u43, h⟩ := h
    obtain ⟨u44, h⟩ := h
    obtain ⟨u45, h⟩ := h
    obtain ⟨u46, h⟩ := h
    obtain ⟨u47, h⟩ := h
    obtain ⟨u48, h⟩ := h
    obtain ⟨u49, h⟩ := h
    obtain ⟨u50, h⟩ := h
    obtain ⟨u51, h⟩ := h
    obtain ⟨u52, h⟩ := h
    obtain ⟨u53, h⟩ := h
    obtain ⟨u54, h⟩ := h
    obtain ⟨u55, h⟩ := h
    obtain ⟨u56, h⟩ := h
    obtain ⟨u57, h⟩ := h
    obtain ⟨u58, h⟩ := h
    obtain ⟨u59, h⟩ := h
    obtain ⟨u60, h⟩ := h
    obtain ⟨u61, h⟩ := h
    obtain ⟨u62, h⟩ := h
    obtain ⟨u63, h⟩ := h
    obtain ⟨u64, h⟩ := h
    obtain ⟨u65, h⟩ := h
    obtain ⟨u66, h⟩ := h
    obtain ⟨u67, h⟩ := h
    obtain ⟨u68, h⟩ := h
    obtain ⟨u69, h⟩ := h
    obtain ⟨u70, h⟩ := h
    obtain ⟨u71, h⟩ := h
    obtain ⟨u72, h⟩ := h
    obtain ⟨u73, h⟩ := h
    obtain ⟨u74, h⟩ := h
    obtain ⟨u75, h⟩ := h
    obtain ⟨u76, h⟩ := h
    obtain ⟨u77, h⟩ := h
    obtain ⟨u78, h⟩ := h
    obtain ⟨u79, h⟩ := h
    obtain ⟨u80, h⟩ := h
    obtain ⟨u81, h⟩ := h
    obtain ⟨u82, h⟩ := h
    obtain ⟨u83, h⟩ := h
    obtain ⟨u84, h⟩ := h
    obtain ⟨u85, h⟩ := h
    obtain ⟨u86, h⟩ := h
    obtain ⟨u87, h⟩ := h
    obtain ⟨u88, h⟩ := h
    obtain ⟨u89, h⟩ := h
    obtain ⟨u90, h⟩ := h
    obtain ⟨u91, h⟩ := h
    obtain ⟨u92, h⟩ := h
    obtain ⟨u93, h⟩ := h
    obtain ⟨u94, h⟩ := h
    obtain ⟨u95, h⟩ := h
    obtain ⟨u96, h⟩ := h
    obtain ⟨u97, h⟩ := h
    obtain ⟨u98, h⟩ := h
    obtain ⟨u99, h⟩ := h
    obtain ⟨u100, h⟩ := h
    obtain ⟨u101, h⟩ := h
    obtain ⟨u102, h⟩ := h
    obtain ⟨u103, h⟩ := h
    obtain ⟨u104, h⟩ := h
    obtain ⟨u105, h⟩ := h
    obtain ⟨u106, h⟩ := h
    obtain ⟨u107, h⟩ := h
    obtain ⟨u108, h⟩ := h
    obtain ⟨u109, h⟩ := h
    obtain ⟨u110, h⟩ := h
    obtain ⟨u111, h⟩ := h
    obtain ⟨u112, h⟩ := h
    obtain ⟨u113, h⟩ := h
    obtain ⟨u114, h⟩ := h
    obtain ⟨u115, h⟩ := h
    obtain ⟨u116, h⟩ := h
    obtain ⟨u117, h⟩ := h
    obtain ⟨u118, h⟩ := h
    obtain ⟨u119, h⟩ := h
    obtain ⟨u120, h⟩ := h
    obtain ⟨u121, h⟩ := h
    obtain ⟨u122, h⟩ := h
    obtain ⟨u123, h⟩ := h
    obtain ⟨u124, h⟩ := h
    obtain ⟨h, rfl⟩ := h
    exact hK0 u8 u10 u34 u35 u36 u37 u38 u39 u40 u41 u42 u43 u44 u45 u46 u47 u48 u49 u50 u51 u52 u53 u54 u55 u56 u57 u58 u59 u60 u61 u62 u63 u64 u65 u66 u67 u68 u69 u70 u71 u72 u73 u74 u75 u76 u77 u78 u79 u80 u81 u82 u83 u84 u85 u86 u87 u88 u89 u90 u91 u92 u93 u94 u95 u96 u97 u98 u99 u100 u101 u102 u103 u104 u105 u106 u107 u108 u109 u110 u111 u112 u113 u114 u115 u116 u117 u118 u119 u120 u121 u122 u123 u124 wx h
  intro J K1 hJ hK1
  clear hK0 K0
  conv => arg 2; whnf
  have c0 : w1.cell? ⟨w0.heap.size, 0, none⟩ = some (.string { data := #[110, 111, 110, 101] }) := by simp [World.cell?, hT]
  have f0 : w1.frozen? ⟨w0.heap.size, 0, none⟩ = false := by simp [World.frozen?, hT]
  have setIs : ∀ a : ByteArray, (w1.setCell ⟨w0.heap.size, 0, none⟩ (.string a)).heap[w0.heap.size]? = some (.cells #[.string a, .string { data := #[] }, .int .i64 i] 151 (0, 0)) := fun a => by simp [World.setCell, hT, Array.getElem?_modify]
  have setB : ∀ a : ByteArray, Below w0.heap.size w0 (w1.setCell ⟨w0.heap.size, 0, none⟩ (.string a)) := fun a => hB1.setCell (Nat.le_refl _) _
  have SI : Hid _ := setIs
  have SB : Hid _ := setB
  clear setIs setB
  have hc := chr_eq s i hlt
  have hie : ((i : Int) == (s.size : Int)) = false := by simp; omega
  have hwl : w0.heap.size < w1.heap.size := lt_of_block hT
  have hT2 : (w1.alloc (.cells #[.int .u8 61, .int .u8 40, .int .u8 41, .int .u8 44, .int .u8 91, .int .u8 93] 5 (6, 7))).heap[w0.heap.size]? = some (.cells #[.string { data := #[110, 111, 110, 101] }, .string { data := #[] }, .int .i64 i] 151 (0, 0)) := (Below.heap_alloc _ _ _ hwl).trans hT
  have hB2 : Below w0.heap.size w0 (w1.alloc (.cells #[.int .u8 61, .int .u8 40, .int .u8 41, .int .u8 44, .int .u8 91, .int .u8 93] 5 (6, 7))) := hB1.alloc (by omega) _
  have yb : (w1.alloc (.cells #[.int .u8 61, .int .u8 40, .int .u8 41, .int .u8 44, .int .u8 91, .int .u8 93] 5 (6, 7))).heap[w1.heap.size]? = some (.cells #[.int .u8 61, .int .u8 40, .int .u8 41, .int .u8 44, .int .u8 91, .int .u8 93] 5 (6, 7)) := heap_alloc_new _ _
  have K0 : Hid (clsK s i = if isSign (chr s i) then i + 1 else i) := by show _ = _; rw [clsK, if_pos hlt, if_neg (by simp [hl]), if_neg (by simp [hf]), if_neg ha]
  have I0 : Hid (clsI s i = if isSign (chr s i) then s.extract i (i + 1) else { data := #[110, 111, 110, 101] }) := by show _ = _; rw [clsI, if_pos hlt, if_neg (by simp [hl]), if_neg (by simp [hf]), if_neg ha]
  have hcv := Lib.run_convert_bytes_const (P := Tryz.prog) w1 153 5 #[.int .u8 61, .int .u8 40, .int .u8 41, .int .u8 44, .int .u8 91, .int .u8 93] 6 6 Tryz.underlying153 Tryz.underlying5
  simp only [show (#[Value.int .u8 61, .int .u8 40, .int .u8 41, .int .u8 44, .int .u8 91, .int .u8 93] : Array Value).size = 6 from rfl] at hcv
  have HA : Hid _ := ha
  clear SI SB c0 f0 hT hB1 ha
  have K : Hid (clsK s i = i + 1) := by show _ = _; rw [K0.out, if_pos hsg]
  have I : Hid (clsI s i = s.extract i (i + 1)) := by show _ = _; rw [I0.out, if_pos hsg]
  clear hsg K0 I0 HA
  have d45 : (chr s i == 45) = false := by rw [e]; rfl
  have d61 : (chr s i == 61) = false := by rw [e]; rfl
  have d40 : (chr s i == 40) = false := by rw [e]; rfl
  have d41 : (chr s i == 41) = false := by rw [e]; rfl
  have d44 : (chr s i == 44) = true := by rw [e]; rfl
  have d91 : (chr s i == 91) = false := by rw [e]; rfl
  have d93 : (chr s i == 93) = false := by rw [e]; rfl
  clear e
  go_upto_block 5 with (first | (go_at_call 74; refine (low_any _ _).mono ?_; rintro e w' ⟨rfl, hww⟩; rw [hww]; clear hww w') | (go_at_call 75; refine (fig_any _ _).mono ?_; rintro e w' ⟨rfl, hww⟩; rw [hww]; clear hww w'))
  generalize w1.alloc (.cells #[.int .u8 61, .int .u8 40, .int .u8 41, .int .u8 44, .int .u8 91, .int .u8 93] 5 (6, 7)) = w2 at *
  generalize w1.heap.size = bb at *
  clear hl hf hie
  have c0 : w2.cell? ⟨w0.heap.size, 0, none⟩ = some (.string { data := #[110, 111, 110, 101] }) := by simp [World.cell?, hT2]
  have f0 : w2.frozen? ⟨w0.heap.size, 0, none⟩ = false := by simp [World.frozen?, hT2]
  have hne : (⟨w0.heap.size, 0, none⟩ : Addr).block ≠ bb := by show w0.heap.size ≠ bb; omega
  have SI : Hid (∀ a : ByteArray, (w2.setCell ⟨w0.heap.size, 0, none⟩ (.string a)).heap[w0.heap.size]? = some (.cells #[.string a, .string { data := #[] }, .int .i64 i] 151 (0, 0))) := fun a => by simp [World.setCell, hT2, Array.getElem?_modify]
  have SB : Hid (∀ a : ByteArray, Below w0.heap.size w0 (w2.setCell ⟨w0.heap.size, 0, none⟩ (.string a))) := fun a => hB2.setCell (Nat.le_refl _) _
  have y0 : w2.cell? ⟨bb, 0, none⟩ = some (.int .u8 61) := by simp [World.cell?, yb]
  have z0 : ∀ v, (w2.setCell ⟨w0.heap.size, 0, none⟩ v).cell? ⟨bb, 0, none⟩ = some (.int .u8 61) := fun v => (World.cell?_setCell_other _ _ _ _ (fun e => hne (by rw [e]))).trans y0
  have y1 : w2.cell? ⟨bb, 1, none⟩ = some (.int .u8 40) := by simp [World.cell?, yb]
  have z1 : ∀ v, (w2.setCell ⟨w0.heap.size, 0, none⟩ v).cell? ⟨bb, 1, none⟩ = some (.int .u8 40) := fun v => (World.cell?_setCell_other _ _ _ _ (fun e => hne (by rw [e]))).trans y1
  have y2 : w2.cell? ⟨bb, 2, none⟩ = some (.int .u8 41) := by simp [World.cell?, yb]
  have z2 : ∀ v, (w2.setCell ⟨w0.heap.size, 0, none⟩ v).cell? ⟨bb, 2, none⟩ = some (.int .u8 41) := fun v => (World.cell?_setCell_other _ _ _ _ (fun e => hne (by rw [e]))).trans y2
  have y3 : w2.cell? ⟨bb, 3, none⟩ = some (.int .u8 44) := by simp [World.cell?, yb]
  have z3 : ∀ v, (w2.setCell ⟨w0.heap.size, 0, none⟩ v).cell? ⟨bb, 3, none⟩ = some (.int .u8 44) := fun v => (World.cell?_setCell_other _ _ _ _ (fun e => hne (by rw [e]))).trans y3
  have y4 : w2.cell? ⟨bb, 4, none⟩ = some (.int .u8 91) := by simp [World.cell?, yb]
  have z4 : ∀ v, (w2.setCell ⟨w0.heap.size, 0, none⟩ v).cell? ⟨bb, 4, none⟩ = some (.int .u8 91) := fun v => (World.cell?_setCell_other _ _ _ _ (fun e => hne (by rw [e]))).trans y4
  have y5 : w2.cell? ⟨bb, 5, none⟩ = some (.int .u8 93) := by simp [World.cell?, yb]
  have z5 : ∀ v, (w2.setCell ⟨w0.heap.size, 0, none⟩ v).cell? ⟨bb, 5, none⟩ = some (.int .u8 93) := fun v => (World.cell?_setCell_other _ _ _ _ (fun e => hne (by rw [e]))).trans y5
  clear hT2 yb hwl hne hcv
  go_wp2_with fail
  refine wp_loop_rounds 7 ?_
  iterate 7 (rw [rounds_succ]; go_wp2)
  go_meet
  case rel => exact ⟨by rw [K.out]; go_num, by rw [I.out]; exact SI.out _, SB.out _⟩

set_option maxRecDepth 1000000 in
set_option maxHeartbeats 20000000 in
theorem sw_sign91 (s : ByteArray) (i : Nat) (hlt : i < s.size) (hl : lowI (chr s i) = false) (hf : figI (chr s i) = false) (ha : ¬ (chr s i = 45 ∧ i + 1 < s.size ∧ chr s (i + 1) = 62)) (hsg : isSign (chr s i) = true) (e : chr s i = 91) : SwS s i := by
  intro w0 w1 K0 Q q1 q2 q3 q4 q5 q9 q10 q11 q12 q13 q14 q15 q16 q17 q18 q19 q20 q21 q22 q23 q24 q25 q26 q27 q28 q29 q30 q31 q32 q33 q34 q35 q36 q37 q38 q39 q40 q41 q42 q43 q44 q45 q46 q47 q48 q49 q50 q51 q52 q53 q54 q55 q56 q57 q58 q59 q60 q61 q62 q63 q64 q65 q66 q67 q68 q69 q70 q71 q72 q73 q74 q75 q76 q77 q78 q79 q80 q81 q82 q83 q84 q85 q86 q87 q88 q89 q90 q91 q92 q93 q94 q95 q96 q97 q98 q99 q100 q101 q102 q103 q104 q105 q106 q107 q108 q109 q110 q111 q112 q113 q114 q115 q116 q117 q118 q119 q120 q121 q122 q123 q124 q125 q126 q127 q128 q129 q130 q131 q132 q133 q134 q135 q136 q137 q138 q139 q140 q141 q142 q143 q144 q145 q146 q147 q148 q149 q150 q151 q152 q153 q154 q155 q156 q157 q158 q159 q160 q161 q162 q163 q164 q165 q166 q167 q168 q169 q170 q171 q172 q173 q174 q175 q176 hs hri hT hB1 hK0
  refine wp_cut (fun a wx => ∃ u8 : Value, ∃ u10 : Value, ∃ u34 : Value, ∃ u35 : Value, ∃ u36 : Value, ∃ u37 : Value, ∃ u38 : Value, ∃ u39 : Value, ∃ u40 : Value, ∃ u41 : Value, ∃ u42 : Value, ∃ u43 : Value, ∃ u44 : Value, ∃ u45 : Value, ∃ u46 : Value, ∃ u47 : Value, ∃ u48 : Value, ∃ u49 : Value, ∃ u50 : Value, ∃ u51 : Value, ∃ u52 : Value, ∃ u53 : Value, ∃ u54 : Value, ∃ u55 : Value, ∃ u56 : Value, ∃ u57 : Value, ∃ u58 : Value, ∃ u59 : Value, ∃ u60 : Value, ∃ u61 : Value, ∃ u62 : Value, ∃ u63 : Value, ∃ u64 : Value, ∃ u65 : Value, ∃ u66 : Value, ∃ u67 : Value, ∃ u68 : Value, ∃ u69 : Value, ∃ u70 : Value, ∃ u71 : Value, ∃ u72 : Value, ∃ u73 : Value, ∃ u74 : Value, ∃ u75 : Value, ∃ u76 : Value, ∃ u77 : Value, ∃ u78 : Value, ∃ u79 : Value, ∃ u80 : Value, ∃ u81 : Value, ∃ u82 : Value, ∃ u83 : Value, ∃ u84 : Value, ∃ u85 : Value, ∃ u86 : Value, ∃ u87 : Value, ∃ u88 : Value, ∃ u89 : Value, ∃ u90 : Value, ∃ u91 : Value, ∃ u92 : Value, ∃ u93 : Value, ∃ u94 : Value, ∃ u95 : Value, ∃ u96 : Value, ∃ u97 : Value, ∃ u98 : Value, ∃ u99 : Value, ∃ u100 : Value, ∃ u101 : Value, ∃ u102 : Value, ∃ u103 : Value, ∃ u104 : Value, ∃ u105 : Value, ∃ u106 : Value, ∃ u107 : Value, ∃ u108 : Value, ∃ u109 : Value, ∃ u110 : Value, ∃ u111 : Value, ∃ u112 : Value, ∃ u113 : Value, ∃ u114 : Value, ∃ u115 : Value, ∃ u116 : Value, ∃ u117 : Value, ∃ u118 : Value, ∃ u119 : Value, ∃ u120 : Value, ∃ u121 : Value, ∃ u122 : Value, ∃ u123 : Value, ∃ u124 : Value, (u8 = .int .i64 (clsK s i : Nat) ∧ wx.heap[w0.heap.size]? = some (.cells #[.string (clsI s i), .string { data := #[] }, .int .i64 i] 151 (0, 0)) ∧ Below w0.heap.size w0 wx) ∧ a = ⟨#[.string s, q1, q2, q3, q4, q5, .int .i64 i, .pointer (some ⟨w0.heap.size, 0, none⟩), u8, q9, u10, q11, q12, q13, q14, q15, q16, q17, q18, q19, q20, q21, q22, q23, q24, q25, q26, q27, q28, q29, q30, q31, q32, q33, u34, u35, u36, u37, u38, u39, u40, u41, u42, u43, u44, u45, u46, u47, u48, u49, u50, u51, u52, u53, u54, u55, u56, u57, u58, u59, u60, u61, u62, u63, u64, u65, u66, u67, u68, u69, u70, u71, u72, u73, u74, u75, u76, u77, u78, u79, u80, u81, u82, u83, u84, u85, u86, u87, u88, u89, u90, u91, u92, u93, u94, u95, u96, u97, u98, u99, u100, u101, u102, u103, u104, u105, u106, u107, u108, u109, u110, u111, u112, u113, u114, u115, u116, u117, u118, u119, u120, u121, u122, u123, u124, q125, q126, q127, q128, q129, q130, q131, q132, q133, q134, q135, q136, q137, q138, q139, q140, q141, q142, q143, q144, q145, q146, q147, q148, q149, q150, q151, q152, q153, q154, q155, q156, q157, q158, q159, q160, q161, q162, q163, q164, q165, q166, q167, q168, q169, q170, q171, q172, q173, q174, q175, q176], []⟩) ?_ ?_
  · intro a wx h
    obtain ⟨u8, h⟩ := h
    obtain ⟨u10, h⟩ := h
    obtain ⟨u34, h⟩ := h
    obtain ⟨u35, h⟩ := h
    obtain ⟨u36, h⟩ := h
    obtain ⟨u37, h⟩ := h
    obtain ⟨u38, h⟩ := h
    obtain ⟨u39, h⟩ := h
    obtain ⟨u40, h⟩ := h
    obtain ⟨u41, h⟩ := h
    obtain ⟨u42, h⟩ := h
    obtain ⟨u43, h⟩ := h
    obtain ⟨u44, h⟩ := h
    obtain ⟨u45, h⟩ := h
    obtain ⟨u46, h⟩ := h
    obtain ⟨u47, h⟩ := h
    obtain ⟨u48, h⟩ := h
    obtain ⟨u49, h⟩ := h
    obtain ⟨u50, h⟩ := h
    obtain ⟨u51, h⟩ := h
    obtain ⟨u52, h⟩ := h
    obtain ⟨u53, h⟩ := h
    obtain ⟨u54, h⟩ := h
    obtain ⟨u55, h⟩ := h
    obtain ⟨u56, h⟩ := h
    obtain ⟨u57, h⟩ := h
    obtain ⟨u58, h⟩ := h
    obtain ⟨u59, h⟩ := h
    obtain ⟨u60, h⟩ := h
    obtain ⟨u61, h⟩ := h
    obtain ⟨u62, h⟩ := h
    obtain ⟨u63, h⟩ := h
    obtain ⟨u64, h⟩ := h
    obtain ⟨u65, h⟩ := h
    obtain ⟨u66, h⟩ := h
    obtain ⟨u67, h⟩ := h
    obtain ⟨u68, h⟩ := h
    obtain ⟨u69, h⟩ := h
    obtain ⟨u70, h⟩ := h
    obtain ⟨u71, h⟩ := h
    obtain ⟨u72, h⟩ := h
    obtain ⟨u73, h⟩ := h
    obtain ⟨u74, h⟩ := h
    obtain ⟨u75, h⟩ := h
    obtain ⟨u76, h⟩ := h
    obtain ⟨u77, h⟩ := h
    obtain ⟨u78, h⟩ := h
    obtain ⟨u79, h⟩ := h
    obtain ⟨u80, h⟩ := h
    obtain ⟨u81, h⟩ := h
    obtain ⟨u82, h⟩ := h
    obtain ⟨u83, h⟩ := h
    obtain ⟨u84, h⟩ := h
    obtain ⟨u85, h⟩ := h
    obtain ⟨u86, h⟩ := h
    obtain ⟨u87, h⟩ := h
    obtain ⟨u88, h⟩ := h
    obtain ⟨u89, h⟩ := h
    obtain ⟨u90, h⟩ := h
    obtain ⟨u91, h⟩ := h
    obtain ⟨u92, h⟩ := h
    obtain ⟨u93, h⟩ := h
    obtain ⟨u94, h⟩ := h
    obtain ⟨u95, h⟩ := h
    obtain ⟨u96, h⟩ := h
    obtain ⟨u97, h⟩ := h
    obtain ⟨u98, h⟩ := h
    obtain ⟨u99, h⟩ := h
    obtain ⟨u100, h⟩ := h
    obtain ⟨u101, h⟩ := h
    obtain ⟨u102, h⟩ := h
    obtain ⟨u103, h⟩ := h
    obtain ⟨u104, h⟩ := h
    obtain ⟨u105, h⟩ := h
    obtain ⟨u106, h⟩ := h
    obtain ⟨u107, h⟩ := h
    obtain ⟨u108, h⟩ := h
    obtain ⟨u109, h⟩ := h
    obtain ⟨u110, h⟩ := h
    obtain ⟨u111, h⟩ := h
    obtain ⟨u112, h⟩ := h
    obtain ⟨u113, h⟩ := h
    obtain ⟨u114, h⟩ := h
    obtain ⟨u115, h⟩ := h
    obtain ⟨u116, h⟩ := h
    obtain ⟨u117, h⟩ := h
    obtain ⟨u118, h⟩ := h
    obtain ⟨u119, h⟩ := h
    obtain ⟨u120, h⟩ := h
    obtain ⟨u121, h⟩ := h
    obtain ⟨u122, h⟩ := h
    obtain ⟨u123, h⟩ := h
    obtain ⟨u124, h⟩ := h
    obtain ⟨h, rfl⟩ := h
    exact hK0 u8 u10 u34 u35 u36 u37 u38 u39 u40 u41 u42 u43 u44 u45 u46 u47 u48 u49 u50 u51 u52 u53 u54 u55 u56 u57 u58 u59 u60 u61 u62 u63 u64 u65 u66 u67 u68 u69 u70 u71 u72 u73 u74 u75 u76 u77 u78 u79 u80 u81 u82 u83 u84 u85 u86 u87 u88 u89 u90 u91 u92 u93 u94 u95 u96 u97 u98 u99 u100 u101 u102 u103 u104 u105 u106 u107 u108 u109 u110 u111 u112 u113 u114 u115 u116 u117 u118 u119 u120 u121 u122 u123 u124 wx h
  intro J K1 hJ hK1
  clear hK0 K0
  conv => arg 2; whnf
  have c0 : w1.cell? ⟨w0.heap.size, 0, none⟩ = some (.string { data := #[110, 111, 110, 101] }) := by simp [World.cell?, hT]
  have f0 : w1.frozen? ⟨w0.heap.size, 0, none⟩ = false := by simp [World.frozen?, hT]
  have setIs : ∀ a : ByteArray, (w1.setCell ⟨w0.heap.size, 0, none⟩ (.string a)).heap[w0.heap.size]? = some (.cells #[.string a, .string { data := #[] }, .int .i64 i] 151 (0, 0)) := fun a => by simp [World.setCell, hT, Array.getElem?_modify]
  have setB : ∀ a : ByteArray, Below w0.heap.size w0 (w1.setCell ⟨w0.heap.size, 0, none⟩ (.string a)) := fun a => hB1.setCell (Nat.le_refl _) _
  have SI : Hid _ := setIs
  have SB : Hid _ := setB
  clear setIs setB
  have hc := chr_eq s i hlt
  have hie : ((i : Int) == (s.size : Int)) = false := by simp; omega
  have hwl : w0.heap.size < w1.heap.size := lt_of_block hT
  have hT2 : (w1.alloc (.cells #[.int .u8 61, .int .u8 40, .int .u8 41, .int .u8 44, .int .u8 91, .int .u8 93] 5 (6, 7))).heap[w0.heap.size]? = some (.cells #[.string { data := #[110, 111, 110, 101] }, .string { data := #[] }, .int .i64 i] 151 (0, 0)) := (Below.heap_alloc _ _ _ hwl).trans hT
  have hB2 : Below w0.heap.size w0 (w1.alloc (.cells #[.int .u8 61, .int .u8 40, .int .u8 41, .int .u8 44, .int .u8 91, .int .u8 93] 5 (6, 7))) := hB1.alloc (by omega) _
  have yb : (w1.alloc (.cells #[.int .u8 61, .int .u8 40, .int .u8 41, .int .u8 44, .int .u8 91, .int .u8 93] 5 (6, 7))).heap[w1.heap.size]? = some (.cells #[.int .u8 61, .int .u8 40, .int .u8 41, .int .u8 44, .int .u8 91, .int .u8 93] 5 (6, 7)) := heap_alloc_new _ _
  have K0 : Hid (clsK s i = if isSign (chr s i) then i + 1 else i) := by show _ = _; rw [clsK, if_pos hlt, if_neg (by simp [hl]), if_neg (by simp [hf]), if_neg ha]
  have I0 : Hid (clsI s i = if isSign (chr s i) then s.extract i (i + 1) else { data := #[110, 111, 110, 101] }) := by show _ = _; rw [clsI, if_pos hlt, if_neg (by simp [hl]), if_neg (by simp [hf]), if_neg ha]
  have hcv := Lib.run_convert_bytes_const (P := Tryz.prog) w1 153 5 #[.int .u8 61, .int .u8 40, .int .u8 41, .int .u8 44, .int .u8 91, .int .u8 93] 6 6 Tryz.underlying153 Tryz.underlying5
  simp only [show (#[Value.int .u8 61, .int .u8 40, .int .u8 41, .int .u8 44, .int .u8 91, .int .u8 93] : Array Value).size = 6 from rfl] at hcv
  have HA : Hid _ := ha
  clear SI SB c0 f0 hT hB1 ha
  have K : Hid (clsK s i = i + 1) := by show _ = _; rw [K0.out, if_pos hsg]
  have I : Hid (clsI s i = s.extract i (i + 1)) := by show _ = _; rw [I0.out, if_pos hsg]
  clear hsg K0 I0 HA
  have d45 : (chr s i == 45) = false := by rw [e]; rfl
  have d61 : (chr s i == 61) = false := by rw [e]; rfl
  have d40 : (chr s i == 40) = false := by rw [e]; rfl
  have d41 : (chr s i == 41) = false := by rw [e]; rfl
  have d44 : (chr s i == 44) = false := by rw [e]; rfl
  have d91 : (chr s i == 91) = true := by rw [e]; rfl
  have d93 : (chr s i == 93) = false := by rw [e]; rfl
  clear e
  go_upto_block 5 with (first | (go_at_call 74; refine (low_any _ _).mono ?_; rintro e w' ⟨rfl, hww⟩; rw [hww]; clear hww w') | (go_at_call 75; refine (fig_any _ _).mono ?_; rintro e w' ⟨rfl, hww⟩; rw [hww]; clear hww w'))
  generalize w1.alloc (.cells #[.int .u8 61, .int .u8 40, .int .u8 41, .int .u8 44, .int .u8 91, .int .u8 93] 5 (6, 7)) = w2 at *
  generalize w1.heap.size = bb at *
  clear hl hf hie
  have c0 : w2.cell? ⟨w0.heap.size, 0, none⟩ = some (.string { data := #[110, 111, 110, 101] }) := by simp [World.cell?, hT2]
  have f0 : w2.frozen? ⟨w0.heap.size, 0, none⟩ = false := by simp [World.frozen?, hT2]
  have hne : (⟨w0.heap.size, 0, none⟩ : Addr).block ≠ bb := by show w0.heap.size ≠ bb; omega
  have SI : Hid (∀ a : ByteArray, (w2.setCell ⟨w0.heap.size, 0, none⟩ (.string a)).heap[w0.heap.size]? = some (.cells #[.string a, .string { data := #[] }, .int .i64 i] 151 (0, 0))) := fun a => by simp [World.setCell, hT2, Array.getElem?_modify]
  have SB : Hid (∀ a : ByteArray, Below w0.heap.size w0 (w2.setCell ⟨w0.heap.size, 0, none⟩ (.string a))) := fun a => hB2.setCell (Nat.le_refl _) _
  have y0 : w2.cell? ⟨bb, 0, none⟩ = some (.int .u8 61) := by simp [World.cell?, yb]
  have z0 : ∀ v, (w2.setCell ⟨w0.heap.size, 0, none⟩ v).cell? ⟨bb, 0, none⟩ = some (.int .u8 61) := fun v => (World.cell?_setCell_other _ _ _ _ (fun e => hne (by rw [e]))).trans y0
  have y1 : w2.cell? ⟨bb, 1, none⟩ = some (.int .u8 40) := by simp [World.cell?, yb]
  have z1 : ∀ v, (w2.setCell ⟨w0.heap.size, 0, none⟩ v).cell? ⟨bb, 1, none⟩ = some (.int .u8 40) := fun v => (World.cell?_setCell_other _ _ _ _ (fun e => hne (by rw [e]))).trans y1
  have y2 : w2.cell? ⟨bb, 2, none⟩ = some (.int .u8 41) := by simp [World.cell?, yb]
  have z2 : ∀ v, (w2.setCell ⟨w0.heap.size, 0, none⟩ v).cell? ⟨bb, 2, none⟩ = some (.int .u8 41) := fun v => (World.cell?_setCell_other _ _ _ _ (fun e => hne (by rw [e]))).trans y2
  have y3 : w2.cell? ⟨bb, 3, none⟩ = some (.int .u8 44) := by simp [World.cell?, yb]
  have z3 : ∀ v, (w2.setCell ⟨w0.heap.size, 0, none⟩ v).cell? ⟨bb, 3, none⟩ = some (.int .u8 44) := fun v => (World.cell?_setCell_other _ _ _ _ (fun e => hne (by rw [e]))).trans y3
  have y4 : w2.cell? ⟨bb, 4, none⟩ = some (.int .u8 91) := by simp [World.cell?, yb]
  have z4 : ∀ v, (w2.setCell ⟨w0.heap.size, 0, none⟩ v).cell? ⟨bb, 4, none⟩ = some (.int .u8 91) := fun v => (World.cell?_setCell_other _ _ _ _ (fun e => hne (by rw [e]))).trans y4
  have y5 : w2.cell? ⟨bb, 5, none⟩ = some (.int .u8 93) := by simp [World.cell?, yb]
  have z5 : ∀ v, (w2.setCell ⟨w0.heap.size, 0, none⟩ v).cell? ⟨bb, 5, none⟩ = some (.int .u8 93) := fun v => (World.cell?_setCell_other _ _ _ _ (fun e => hne (by rw [e]))).trans y5
  clear hT2 yb hwl hne hcv
  go_wp2_with fail
  refine wp_loop_rounds 7 ?_
  iterate 7 (rw [rounds_succ]; go_wp2)
  go_meet
  case rel => exact ⟨by rw [K.out]; go_num, by rw [I.out]; exact SI.out _, SB.out _⟩

set_option maxRecDepth 1000000 in
set_option maxHeartbeats 20000000 in
theorem sw_sign93 (s : ByteArray) (i : Nat) (hlt : i < s.size) (hl : lowI (chr s i) = false) (hf : figI (chr s i) = false) (ha : ¬ (chr s i = 45 ∧ i + 1 < s.size ∧ chr s (i + 1) = 62)) (hsg : isSign (chr s i) = true) (e : chr s i = 93) : SwS s i := by
  intro w0 w1 K0 Q q1 q2 q3 q4 q5 q9 q10 q11 q12 q13 q14 q15 q16 q17 q18 q19 q20 q21 q22 q23 q24 q25 q26 q27 q28 q29 q30 q31 q32 q33 q34 q35 q36 q37 q38 q39 q40 q41 q42 q43 q44 q45 q46 q47 q48 q49 q50 q51 q52 q53 q54 q55 q56 q57 q58 q59 q60 q61 q62 q63 q64 q65 q66 q67 q68 q69 q70 q71 q72 q73 q74 q75 q76 q77 q78 q79 q80 q81 q82 q83 q84 q85 q86 q87 q88 q89 q90 q91 q92 q93 q94 q95 q96 q97 q98 q99 q100 q101 q102 q103 q104 q105 q106 q107 q108 q109 q110 q111 q112 q113 q114 q115 q116 q117 q118 q119 q120 q121 q122 q123 q124 q125 q126 q127 q128 q129 q130 q131 q132 q133 q134 q135 q136 q137 q138 q139 q140 q141 q142 q143 q144 q145 q146 q147 q148 q149 q150 q151 q152 q153 q154 q155 q156 q157 q158 q159 q160 q161 q162 q163 q164 q165 q166 q167 q168 q169 q170 q171 q172 q173 q174 q175 q176 hs hri hT hB1 hK0
  refine wp_cut (fun a wx => ∃ u8 : Value, ∃ u10 : Value, ∃ u34 : Value, ∃ u35 : Value, ∃ u36 : Value, ∃ u37 : Value, ∃ u38 : Value, ∃ u39 : Value, ∃ u40 : Value, ∃ u41 : Value, ∃ u42 : Value, ∃ u43 : Value, ∃ u44 : Value, ∃ u45 : Value, ∃ u46 : Value, ∃ u47 : Value, ∃ u48 : Value, ∃ u49 : Value, ∃ u50 : Value, ∃ u51 : Value, ∃ u52 : Value, ∃ u53 : Value, ∃ u54 : Value, ∃ u55 : Value, ∃ u56 : Value, ∃ u57 : Value, ∃ u58 : Value, ∃ u59 : Value, ∃ u60 : Value, ∃ u61 : Value, ∃ u62 : Value, ∃ u63 : Value, ∃ u64 : Value, ∃ u65 : Value, ∃ u66 : Value, ∃ u67 : Value, ∃ u68 : Value, ∃ u69 : Value, ∃ u70 : Value, ∃ u71 : Value, ∃ u72 : Value, ∃ u73 : Value, ∃ u74 : Value, ∃ u75 : Value, ∃ u76 : Value, ∃ u77 : Value, ∃ u78 : Value, ∃ u79 : Value, ∃ u80 : Value, ∃ u81 : Value, ∃ u82 : Value, ∃ u83 : Value, ∃ u84 : Value, ∃ u85 : Value, ∃ u86 : Value, ∃ u87 : Value, ∃ u88 : Value, ∃ u89 : Value, ∃ u90 : Value, ∃ u91 : Value, ∃ u92 : Value, ∃ u93 : Value, ∃ u94 : Value, ∃ u95 : Value, ∃ u96 : Value, ∃ u97 : Value, ∃ u98 : Value, ∃ u99 : Value, ∃ u100 : Value, ∃ u101 : Value, ∃ u102 : Value, ∃ u103 : Value, ∃ u104 : Value, ∃ u105 : Value, ∃ u106 : Value, ∃ u107 : Value, ∃ u108 : Value, ∃ u109 : Value, ∃ u110 : Value, ∃ u111 : Value, ∃ u112 : Value, ∃ u113 : Value, ∃ u114 : Value, ∃ u115 : Value, ∃ u116 : Value, ∃ u117 : Value, ∃ u118 : Value, ∃ u119 : Value, ∃ u120 : Value, ∃ u121 : Value, ∃ u122 : Value, ∃ u123 : Value, ∃ u124 : Value, (u8 = .int .i64 (clsK s i : Nat) ∧ wx.heap[w0.heap.size]? = some (.cells #[.string (clsI s i), .string { data := #[] }, .int .i64 i] 151 (0, 0)) ∧ Below w0.heap.size w0 wx) ∧ a = ⟨#[.string s, q1, q2, q3, q4, q5, .int .i64 i, .pointer (some ⟨w0.heap.size, 0, none⟩), u8, q9, u10, q11, q12, q13, q14, q15, q16, q17, q18, q19, q20, q21, q22, q23, q24, q25, q26, q27, q28, q29, q30, q31, q32, q33, u34, u35, u36, u37, u38, u39, u40, u41, u42, u43, u44, u45, u46, u47, u48, u49, u50, u51, u52, u53, u54, u55, u56, u57, u58, u59, u60, u61, u62, u63, u64, u65, u66, u67, u68, u69, u70, u71, u72, u73, u74, u75, u76, u77, u78, u79, u80, u81, u82, u83, u84, u85, u86, u87, u88, u89, u90, u91, u92, u93, u94, u95, u96, u97, u98, u99, u100, u101, u102, u103, u104, u105, u106, u107, u108, u109, u110, u111, u112, u113, u114, u115, u116, u117, u118, u119, u120, u121, u122, u123, u124, q125, q126, q127, q128, q129, q130, q131, q132, q133, q134, q135, q136, q137, q138, q139, q140, q141, q142, q143, q144, q145, q146, q147, q148, q149, q150, q151, q152, q153, q154, q155, q156, q157, q158, q159, q160, q161, q162, q163, q164, q165, q166, q167, q168, q169, q170, q171, q172, q173, q174, q175, q176], []⟩) ?_ ?_
  · intro a wx h
    obtain ⟨u8, h⟩ := h
    obtain ⟨u10, h⟩ := h
    obtain ⟨u34, h⟩ := h
    obtain ⟨u35, h⟩ := h
    obtain ⟨u36, h⟩ := h
    obtain ⟨u37, h⟩ := h
    obtain ⟨u38, h⟩ := h
    obtain ⟨u39, h⟩ := h
    obtain ⟨u40, h⟩ := h
    obtain ⟨u41, h⟩ := h
    obtain ⟨u42, h⟩ := h
    obtain ⟨u43, h⟩ := h
    obtain ⟨u44, h⟩ := h
    obtain ⟨u45, h⟩ := h
    obtain ⟨u46, h⟩ := h
    obtain ⟨u47, h⟩ := h
    obtain ⟨u48, h⟩ := h
    obtain ⟨u49, h⟩ := h
    obtain ⟨u50, h⟩ := h
    obtain ⟨u51, h⟩ := h
    obtain ⟨u52, h⟩ := h
    obtain ⟨u53, h⟩ := h
    obtain ⟨u54, h⟩ := h
    obtain ⟨u55, h⟩ := h
    obtain ⟨u56, h⟩ := h
    obtain ⟨u57, h⟩ := h
    obtain ⟨u58, h⟩ := h
    obtain ⟨u59, h⟩ := h
    obtain ⟨u60, h⟩ := h
    obtain ⟨u61, h⟩ := h
    obtain ⟨u62, h⟩ := h
    obtain ⟨u63, h⟩ := h
    obtain ⟨u64, h⟩ := h
    obtain ⟨u65, h⟩ := h
    obtain ⟨u66, h⟩ := h
    obtain ⟨u67, h⟩ := h
    obtain ⟨u68, h⟩ := h
    obtain ⟨u69, h⟩ := h
    obtain ⟨u70, h⟩ := h
    obtain ⟨u71, h⟩ := h
    obtain ⟨u72, h⟩ := h
    obtain ⟨u73, h⟩ := h
    obtain ⟨u74, h⟩ := h
    obtain ⟨u75, h⟩ := h
    obtain ⟨u76, h⟩ := h
    obtain ⟨u77, h⟩ := h
    obtain ⟨u78, h⟩ := h
    obtain ⟨u79, h⟩ := h
    obtain ⟨u80, h⟩ := h
    obtain ⟨u81, h⟩ := h
    obtain ⟨u82, h⟩ := h
    obtain ⟨u83, h⟩ := h
    obtain ⟨u84, h⟩ := h
    obtain ⟨u85, h⟩ := h
    obtain ⟨u86, h⟩ := h
    obtain ⟨u87, h⟩ := h
    obtain ⟨u88, h⟩ := h
    obtain ⟨u89, h⟩ := h
    obtain ⟨u90, h⟩ := h
    obtain ⟨u91, h⟩ := h
    obtain ⟨u92, h⟩ := h
    obtain ⟨u93, h⟩ := h
    obtain ⟨u94, h⟩ := h
    obtain ⟨u95, h⟩ := h
    obtain ⟨u96, h⟩ := h
    obtain ⟨u97, h⟩ := h
    obtain ⟨u98, h⟩ := h
    obtain ⟨u99, h⟩ := h
    obtain ⟨u100, h⟩ := h
    obtain ⟨u101, h⟩ := h
    obtain ⟨u102, h⟩ := h
    obtain ⟨u103, h⟩ := h
    obtain ⟨u104, h⟩ := h
    obtain ⟨u105, h⟩ := h
    obtain ⟨u106, h⟩ := h
    obtain ⟨u107, h⟩ := h
    obtain ⟨u108, h⟩ := h
    obtain ⟨u109, h⟩ := h
    obtain ⟨u110, h⟩ := h
    obtain ⟨u111, h⟩ := h
    obtain ⟨u112, h⟩ := h
    obtain ⟨u113, h⟩ := h
    obtain ⟨u114, h⟩ := h
    obtain ⟨u115, h⟩ := h
    obtain ⟨u116, h⟩ := h
    obtain ⟨u117, h⟩ := h
    obtain ⟨u118, h⟩ := h
    obtain ⟨u119, h⟩ := h
    obtain ⟨u120, h⟩ := h
    obtain ⟨u121, h⟩ := h
    obtain ⟨u122, h⟩ := h
    obtain ⟨u123, h⟩ := h
    obtain ⟨u124, h⟩ := h
    obtain ⟨h, rfl⟩ := h
    exact hK0 u8 u10 u34 u35 u36 u37 u38 u39 u40 u41 u42 u43 u44 u45 u46 u47 u48 u49 u50 u51 u52 u53 u54 u55 u56 u57 u58 u59 u60 u61 u62 u63 u64 u65 u66 u67 u68 u69 u70 u71 u72 u73 u74 u75 u76 u77 u78 u79 u80 u81 u82 u83 u84 u85 u86 u87 u88 u89 u90 u91 u92 u93 u94 u95 u96 u97 u98 u99 u100 u101 u102 u103 u104 u105 u106 u107 u108 u109 u110 u111 u112 u113 u114 u115 u116 u117 u118 u119 u120 u121 u122 u123 u124 wx h
  intro J K1 hJ hK1
  clear hK0 K0
  conv => arg 2; whnf
  have c0 : w1.cell? ⟨w0.heap.size, 0, none⟩ = some (.string { data := #[110, 111, 110, 101] }) := by simp [World.cell?, hT]
  have f0 : w1.frozen? ⟨w0.heap.size, 0, none⟩ = false := by simp [World.frozen?, hT]
  have setIs : ∀ a : ByteArray, (w1.setCell ⟨w0.heap.size, 0, none⟩ (.string a)).heap[w0.heap.size]? = some (.cells #[.string a, .string { data := #[] }, .int .i64 i] 151 (0, 0)) := fun a => by simp [World.setCell, hT, Array.getElem?_modify]
  have setB : ∀ a : ByteArray, Below w0.heap.size w0 (w1.setCell ⟨w0.heap.size, 0, none⟩ (.string a)) := fun a => hB1.setCell (Nat.le_refl _) _
  have SI : Hid _ := setIs
  have SB : Hid _ := setB
  clear setIs setB
  have hc := chr_eq s i hlt
  have hie : ((i : Int) == (s.size : Int)) = false := by simp; omega
  have hwl : w0.heap.size < w1.heap.size := lt_of_block hT
  have hT2 : (w1.alloc (.cells #[.int .u8 61, .int .u8 40, .int .u8 41, .int .u8 44, .int .u8 91, .int .u8 93] 5 (6, 7))).heap[w0.heap.size]? = some (.cells #[.string { data := #[110, 111, 110, 101] }, .string { data := #[] }, .int .i64 i] 151 (0, 0)) := (Below.heap_alloc _ _ _ hwl).trans hT
  have hB2 : Below w0.heap.size w0 (w1.alloc (.cells #[.int .u8 61, .int .u8 40, .int .u8 41, .int .u8 44, .int .u8 91, .int .u8 93] 5 (6, 7))) := hB1.alloc (by omega) _
  have yb : (w1.alloc (.cells #[.int .u8 61, .int .u8 40, .int .u8 41, .int .u8 44, .int .u8 91, .int .u8 93] 5 (6, 7))).heap[w1.heap.size]? = some (.cells #[.int .u8 61, .int .u8 40, .int .u8 41, .int .u8 44, .int .u8 91, .int .u8 93] 5 (6, 7)) := heap_alloc_new _ _
  have K0 : Hid (clsK s i = if isSign (chr s i) then i + 1 else i) := by show _ = _; rw [clsK, if_pos hlt, if_neg (by simp [hl]), if_neg (by simp [hf]), if_neg ha]
  have I0 : Hid (clsI s i = if isSign (chr s i) then s.extract i (i + 1) else { data := #[110, 111, 110, 101] }) := by show _ = _; rw [clsI, if_pos hlt, if_neg (by simp [hl]), if_neg (by simp [hf]), if_neg ha]
  have hcv := Lib.run_convert_bytes_const (P := Tryz.prog) w1 153 5 #[.int .u8 61, .int .u8 40, .int .u8 41, .int .u8 44, .int .u8 91, .int .u8 93] 6 6 Tryz.underlying153 Tryz.underlying5
  simp only [show (#[Value.int .u8 61, .int .u8 40, .int .u8 41, .int .u8 44, .int .u8 91, .int .u8 93] : Array Value).size = 6 from rfl] at hcv
  have HA : Hid _ := ha
  clear SI SB c0 f0 hT hB1 ha
  have K : Hid (clsK s i = i + 1) := by show _ = _; rw [K0.out, if_pos hsg]
  have I : Hid (clsI s i = s.extract i (i + 1)) := by show _ = _; rw [I0.out, if_pos hsg]
  clear hsg K0 I0 HA
  have d45 : (chr s i == 45) = false := by rw [e]; rfl
  have d61 : (chr s i == 61) = false := by rw [e]; rfl
  have d40 : (chr s i == 40) = false := by rw [e]; rfl
  have d41 : (chr s i == 41) = false := by rw [e]; rfl
  have d44 : (chr s i == 44) = false := by rw [e]; rfl
  have d91 : (chr s i == 91) = false := by rw [e]; rfl
  have d93 : (chr s i == 93) = true := by rw [e]; rfl
  clear e
  go_upto_block 5 with (first | (go_at_call 74; refine (low_any _ _).mono ?_; rintro e w' ⟨rfl, hww⟩; rw [hww]; clear hww w') | (go_at_call 75; refine (fig_any _ _).mono ?_; rintro e w' ⟨rfl, hww⟩; rw [hww]; clear hww w'))
  generalize w1.alloc (.cells #[.int .u8 61, .int .u8 40, .int .u8 41, .int .u8 44, .int .u8 91, .int .u8 93] 5 (6, 7)) = w2 at *
  generalize w1.heap.size = bb at *
  clear hl hf hie
  have c0 : w2.cell? ⟨w0.heap.size, 0, none⟩ = some (.string { data := #[110, 111, 110, 101] }) := by simp [World.cell?, hT2]
  have f0 : w2.frozen? ⟨w0.heap.size, 0, none⟩ = false := by simp [World.frozen?, hT2]
  have hne : (⟨w0.heap.size, 0, none⟩ : Addr).block ≠ bb := by show w0.heap.size ≠ bb; omega
  have SI : Hid (∀ a : ByteArray, (w2.setCell ⟨w0.heap.size, 0, none⟩ (.string a)).heap[w0.heap.size]? = some (.cells #[.string a, .string { data := #[] }, .int .i64 i] 151 (0, 0))) := fun a => by simp [World.setCell, hT2, Array.getElem?_modify]
  have SB : Hid (∀ a : ByteArray, Below w0.heap.size w0 (w2.setCell ⟨w0.heap.size, 0, none⟩ (.string a))) := fun a => hB2.setCell (Nat.le_refl _) _
  have y0 : w2.cell? ⟨bb, 0, none⟩ = some (.int .u8 61) := by simp [World.cell?, yb]
  have z0 : ∀ v, (w2.setCell ⟨w0.heap.size, 0, none⟩ v).cell? ⟨bb, 0, none⟩ = some (.int .u8 61) := fun v => (World.cell?_setCell_other _ _ _ _ (fun e => hne (by rw [e]))).trans y0
  have y1 : w2.cell? ⟨bb, 1, none⟩ = some (.int .u8 40) := by simp [World.cell?, yb]
  have z1 : ∀ v, (w2.setCell ⟨w0.heap.size, 0, none⟩ v).cell? ⟨bb, 1, none⟩ = some (.int .u8 40) := fun v => (World.cell?_setCell_other _ _ _ _ (fun e => hne (by rw [e]))).trans y1
  have y2 : w2.cell? ⟨bb, 2, none⟩ = some (.int .u8 41) := by simp [World.cell?, yb]
  have z2 : ∀ v, (w2.setCell ⟨w0.heap.size, 0, none⟩ v).cell? ⟨bb, 2, none⟩ = some (.int .u8 41) := fun v => (World.cell?_setCell_other _ _ _ _ (fun e => hne (by rw [e]))).trans y2
  have y3 : w2.cell? ⟨bb, 3, none⟩ = some (.int .u8 44) := by simp [World.cell?, yb]
  have z3 : ∀ v, (w2.setCell ⟨w0.heap.size, 0, none⟩ v).cell? ⟨bb, 3, none⟩ = some (.int .u8 44) := fun v => (World.cell?_setCell_other _ _ _ _ (fun e => hne (by rw [e]))).trans y3
  have y4 : w2.cell? ⟨bb, 4, none⟩ = some (.int .u8 91) := by simp [World.cell?, yb]
  have z4 : ∀ v, (w2.setCell ⟨w0.heap.size, 0, none⟩ v).cell? ⟨bb, 4, none⟩ = some (.int .u8 91) := fun v => (World.cell?_setCell_other _ _ _ _ (fun e => hne (by rw [e]))).trans y4
  have y5 : w2.cell? ⟨bb, 5, none⟩ = some (.int .u8 93) := by simp [World.cell?, yb]
  have z5 : ∀ v, (w2.setCell ⟨w0.heap.size, 0, none⟩ v).cell? ⟨bb, 5, none⟩ = some (.int .u8 93) := fun v => (World.cell?_setCell_other _ _ _ _ (fun e => hne (by rw [e]))).trans y5
  clear hT2 yb hwl hne hcv
  go_wp2_with fail
  refine wp_loop_rounds 7 ?_
  iterate 7 (rw [rounds_succ]; go_wp2)
  go_meet
  case rel => exact ⟨by rw [K.out]; go_num, by rw [I.out]; exact SI.out _, SB.out _⟩

end Go.Proofs.YtleenphlgbklmaaGreatDoor
