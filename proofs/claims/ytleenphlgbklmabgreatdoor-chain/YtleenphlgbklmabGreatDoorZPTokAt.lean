import Derived.Test.YtleenphlgbklmabGreatDoorZPSign
set_option linter.unusedVariables false
set_option linter.unusedSimpArgs false
namespace Go.Proofs.YtleenphlgbklmabGreatDoor
open Go.RowKit

/-- what the program throws. -/
abbrev thrown (v : Value) : Ending := .panicked [{ v := .iface 185 (.agg #[v]), recovered := false }]
theorem prefuse_syn (b : Addr) (w : World) : Calls Tryz.prog 54 #[.iface 83 (.pointer (some b))] w fun e w' => e = thrown (.iface 83 (.pointer (some b))) ∧ w' = w := by
  go_enter Tryz.func54, Tryz.ntmps54
  go_wp2
  exact ⟨rfl, rfl, rfl⟩
theorem prefuse_es (b : Addr) (w : World) : Calls Tryz.prog 54 #[.iface 342 (.pointer (some b))] w fun e w' => e = thrown (.iface 342 (.pointer (some b))) ∧ w' = w := by
  go_enter Tryz.func54, Tryz.ntmps54
  go_wp2
  exact ⟨rfl, rfl, rfl⟩

/-- the program's token at a place: its kind, its text, where it ends. -/
def pTok (s : ByteArray) (i : Nat) : Option (Nat × ByteArray × Nat) :=
  if i < s.size then
    if lowI (chr s i) then (if run lfI s i - i ≤ 8 then some (1, s.extract i (run lfI s i), run lfI s i) else none)
    else if figI (chr s i) then (if run figI s i - i ≤ 8 then some (2, s.extract i (run figI s i), run figI s i) else none)
    else if chr s i = 45 ∧ i + 1 < s.size ∧ chr s (i + 1) = 62 then some (3, s.extract i (i + 2), i + 2)
    else if isSign (chr s i) then some (3, s.extract i (i + 1), i + 1)
    else none
  else some (0, { data := #[] }, i)

theorem ext_empty (s : ByteArray) : s.extract s.size s.size = { data := #[] } := by
  apply ByteArray.ext
  simp [ByteArray.data_extract]
theorem rest_facts (s : ByteArray) (i : Nat) (hi : i < s.size) (hs : s.size ≤ 300) : (s.extract i s.size).size = s.size - i ∧ chr (s.extract i s.size) 0 = chr s i ∧ (s.extract i s.size).toList.isEmpty = false := by
  have hz : (s.extract i s.size).size = s.size - i := by simp [ByteArray.size_extract]
  refine ⟨hz, by simpa using chr_rest s i 0 (by omega), ?_⟩
  rw [ByteArray.toList_eq]
  cases hq : (s.extract i s.size).data.toList with
  | nil =>
    have : (s.extract i s.size).size = 0 := by
      show (s.extract i s.size).data.size = 0
      rw [← Array.length_toList, hq]; rfl
    omega
  | cons a l => rfl

set_option maxRecDepth 20000 in
set_option maxHeartbeats 2000000 in
theorem ptok_end (s : ByteArray) (i : Nat) (hs : s.size ≤ 300) (hi : i = s.size) (w : World) :
    Calls Tryz.prog 120 #[.string s, .int .i64 i] w fun e w' => e = .returned (.agg #[.int .i64 0, .int .i64 i, .string { data := #[] }]) ∧ Below w.heap.size w w' := by
  subst hi
  have he := ext_empty s
  obtain ⟨w2, hw2⟩ : ∃ w2, w2 = (w.alloc (.cells #[.int .i64 0, .int .i64 s.size, .string { data := #[] }] 189)).alloc (.cells #[.int .i64 0, .int .i64 s.size, .string { data := #[] }] 189) := ⟨_, rfl⟩
  have hb : Below w.heap.size w w2 := by rw [hw2]; exact ((Below.refl _ _).alloc (by simp) _).alloc (by simp) _
  have hr : w2.heap[w.heap.size]? = some (.cells #[.int .i64 0, .int .i64 s.size, .string { data := #[] }] 189 (0, 0)) := by rw [hw2, Below.heap_alloc _ _ _ (by simp)]; exact heap_alloc_new _ _
  have HB : Hid _ := hb
  have HR : Hid _ := hr
  have HW : Hid _ := hw2
  clear hb hr hw2
  go_enter Tryz.func120, Tryz.ntmps120
  go_wp2
  rw [← HW.out]
  have hr := HR.out
  have d0 : w2.cell? ⟨w.heap.size, 0, none⟩ = some (.int .i64 0) := by simp [World.cell?, hr]
  have d1 : w2.cell? ⟨w.heap.size, 1, none⟩ = some (.int .i64 s.size) := by simp [World.cell?, hr]
  have d2 : w2.cell? ⟨w.heap.size, 2, none⟩ = some (.string { data := #[] }) := by simp [World.cell?, hr]
  exact bodyPost_ret (v := .agg #[.int .i64 0, .int .i64 s.size, .string { data := #[] }]) (by simp [results, Tryz.results120, go_sem, d0, d1, d2]) rfl ⟨rfl, HB.out⟩

set_option maxRecDepth 20000 in
set_option maxHeartbeats 2000000 in
theorem ptok_word (s : ByteArray) (i n : Nat) (hs : s.size ≤ 300) (hi : i < s.size) (hl : lowI (chr s i) = true) (hN : run lfI s i = i + n) (hn : n ≤ 8) (w : World) :
    Calls Tryz.prog 120 #[.string s, .int .i64 i] w fun e w' => e = .returned (.agg #[.int .i64 1, .int .i64 i, .string (s.extract i (i + n))]) ∧ Below w.heap.size w w' := by
  obtain ⟨hz, hc0, hne⟩ := rest_facts s i hi hs
  obtain ⟨r, hr⟩ : ∃ r, s.extract i s.size = r := ⟨_, rfl⟩
  have hxx0 : i + n ≤ s.size → r.extract 0 n = s.extract i (i + n) := fun h => by
    rw [← hr, ByteArray.extract_extract]
    congr 1
    omega
  have hrun := run_rest lfI s i (by omega)
  have hge : i < run lfI s i := by
    rw [run_step lfI s i hi (by simp [lfI, hl])]
    have := run_ge lfI s (i + 1)
    omega
  have hle := run_le lfI s i (by omega)
  rw [hr] at hz hc0 hne
  have h0 : 0 < r.size := by omega
  have hcc := chr_eq r 0 h0
  rw [hc0] at hcc
  have hr300 : r.size ≤ 300 := by omega
  have hxx := hxx0 (by omega)
  clear hxx0
  have HL : Hid (∀ w, Calls Tryz.prog 137 #[.int .u8 (chr s i)] w fun e w' => e = .returned (.bool true) ∧ w' = w) := fun w => by have := pletter_any (chr s i) w; rw [hl] at this; exact this
  have HD : Hid (∀ w, Calls Tryz.prog 118 #[.string r, .func (Fn.func 138) #[] #[]] w fun e w' => e = .returned (.int .i64 n) ∧ w' = w) := fun w => by have := lead_ld r hr300 w; rw [show run lfI r 0 = n from by rw [← hr]; omega] at this; exact this
  have hn1 : 0 < n := by omega
  have hnr : n ≤ r.size := by omega
  generalize chr s i = c at *
  clear hrun hge hle hN hl
  rw [← hxx]
  clear hxx
  obtain ⟨w2, hw2⟩ : ∃ w2, w2 = (w.alloc (.cells #[.int .i64 1, .int .i64 i, .string (r.extract 0 n)] 189)).alloc (.cells #[.int .i64 1, .int .i64 i, .string (r.extract 0 n)] 189) := ⟨_, rfl⟩
  have hb : Below w.heap.size w w2 := by rw [hw2]; exact ((Below.refl _ _).alloc (by simp) _).alloc (by simp) _
  have hrr : w2.heap[w.heap.size]? = some (.cells #[.int .i64 1, .int .i64 i, .string (r.extract 0 n)] 189 (0, 0)) := by rw [hw2, Below.heap_alloc _ _ _ (by simp)]; exact heap_alloc_new _ _
  have HB : Hid _ := hb
  have HR : Hid _ := hrr
  have HW : Hid _ := hw2
  have hb8 : decide (8 < (n : Int)) = false := by simp; omega
  have hb0 : ((n : Int) == 0) = false := by simp; omega
  clear hb hrr hw2
  go_enter Tryz.func120, Tryz.ntmps120
  go_wp2_with (first | (go_at_call 137; refine Calls.mono (HL.out _) ?_; rintro e w' ⟨rfl, hww⟩; rw [hww]; clear hww w') | (go_at_call 118; refine Calls.mono (HD.out _) ?_; rintro e w' ⟨rfl, hww⟩; rw [hww]; clear hww w'))
  rw [← HW.out]
  have hrr := HR.out
  have d0 : w2.cell? ⟨w.heap.size, 0, none⟩ = some (.int .i64 1) := by simp [World.cell?, hrr]
  have d1 : w2.cell? ⟨w.heap.size, 1, none⟩ = some (.int .i64 i) := by simp [World.cell?, hrr]
  have d2 : w2.cell? ⟨w.heap.size, 2, none⟩ = some (.string (r.extract 0 n)) := by simp [World.cell?, hrr]
  exact bodyPost_ret (v := .agg #[.int .i64 1, .int .i64 i, .string (r.extract 0 n)]) (by simp [results, Tryz.results120, go_sem, d0, d1, d2]) rfl ⟨rfl, HB.out⟩

set_option maxRecDepth 20000 in
set_option maxHeartbeats 2000000 in
theorem ptok_num (s : ByteArray) (i n : Nat) (hs : s.size ≤ 300) (hi : i < s.size) (hl : lowI (chr s i) = false) (hf : figI (chr s i) = true) (hN : run figI s i = i + n) (hn : n ≤ 8) (w : World) :
    Calls Tryz.prog 120 #[.string s, .int .i64 i] w fun e w' => e = .returned (.agg #[.int .i64 2, .int .i64 i, .string (s.extract i (i + n))]) ∧ Below w.heap.size w w' := by
  obtain ⟨hz, hc0, hne⟩ := rest_facts s i hi hs
  obtain ⟨r, hr⟩ : ∃ r, s.extract i s.size = r := ⟨_, rfl⟩
  have hxx0 : i + n ≤ s.size → r.extract 0 n = s.extract i (i + n) := fun h => by
    rw [← hr, ByteArray.extract_extract]
    congr 1
    omega
  have hrun := run_rest figI s i (by omega)
  have hge : i < run figI s i := by
    rw [run_step figI s i hi (by simp [hf])]
    have := run_ge figI s (i + 1)
    omega
  have hle := run_le figI s i (by omega)
  rw [hr] at hz hc0 hne
  have h0 : 0 < r.size := by omega
  have hcc := chr_eq r 0 h0
  rw [hc0] at hcc
  have hr300 : r.size ≤ 300 := by omega
  have hxx := hxx0 (by omega)
  clear hxx0
  have HL : Hid (∀ w, Calls Tryz.prog 137 #[.int .u8 (chr s i)] w fun e w' => e = .returned (.bool false) ∧ w' = w) := fun w => by have := pletter_any (chr s i) w; rw [hl] at this; exact this
  have HG : Hid (∀ w, Calls Tryz.prog 154 #[.int .u8 (chr s i)] w fun e w' => e = .returned (.bool true) ∧ w' = w) := fun w => by have := pdigit_any (chr s i) w; rw [hf] at this; exact this
  have HD : Hid (∀ w, Calls Tryz.prog 118 #[.string r, .func (Fn.func 154) #[] #[]] w fun e w' => e = .returned (.int .i64 n) ∧ w' = w) := fun w => by have := lead_digit r hr300 w; rw [show run figI r 0 = n from by rw [← hr]; omega] at this; exact this
  have hn1 : 0 < n := by omega
  have hnr : n ≤ r.size := by omega
  generalize chr s i = c at *
  clear hrun hge hle hN hl hf
  rw [← hxx]
  clear hxx
  obtain ⟨w2, hw2⟩ : ∃ w2, w2 = (w.alloc (.cells #[.int .i64 2, .int .i64 i, .string (r.extract 0 n)] 189)).alloc (.cells #[.int .i64 2, .int .i64 i, .string (r.extract 0 n)] 189) := ⟨_, rfl⟩
  have hb : Below w.heap.size w w2 := by rw [hw2]; exact ((Below.refl _ _).alloc (by simp) _).alloc (by simp) _
  have hrr : w2.heap[w.heap.size]? = some (.cells #[.int .i64 2, .int .i64 i, .string (r.extract 0 n)] 189 (0, 0)) := by rw [hw2, Below.heap_alloc _ _ _ (by simp)]; exact heap_alloc_new _ _
  have HB : Hid _ := hb
  have HR : Hid _ := hrr
  have HW : Hid _ := hw2
  have hb8 : decide (8 < (n : Int)) = false := by simp; omega
  have hb0 : ((n : Int) == 0) = false := by simp; omega
  clear hb hrr hw2
  go_enter Tryz.func120, Tryz.ntmps120
  go_wp2_with (first | (go_at_call 137; refine Calls.mono (HL.out _) ?_; rintro e w' ⟨rfl, hww⟩; rw [hww]; clear hww w') | (go_at_call 154; refine Calls.mono (HG.out _) ?_; rintro e w' ⟨rfl, hww⟩; rw [hww]; clear hww w') | (go_at_call 118; refine Calls.mono (HD.out _) ?_; rintro e w' ⟨rfl, hww⟩; rw [hww]; clear hww w'))
  rw [← HW.out]
  have hrr := HR.out
  have d0 : w2.cell? ⟨w.heap.size, 0, none⟩ = some (.int .i64 2) := by simp [World.cell?, hrr]
  have d1 : w2.cell? ⟨w.heap.size, 1, none⟩ = some (.int .i64 i) := by simp [World.cell?, hrr]
  have d2 : w2.cell? ⟨w.heap.size, 2, none⟩ = some (.string (r.extract 0 n)) := by simp [World.cell?, hrr]
  exact bodyPost_ret (v := .agg #[.int .i64 2, .int .i64 i, .string (r.extract 0 n)]) (by simp [results, Tryz.results120, go_sem, d0, d1, d2]) rfl ⟨rfl, HB.out⟩

set_option maxRecDepth 20000 in
set_option maxHeartbeats 2000000 in
theorem ptok_word_bad (s : ByteArray) (i n : Nat) (hs : s.size ≤ 300) (hi : i < s.size) (hl : lowI (chr s i) = true) (hN : run lfI s i = i + n) (hn : 8 < n) (w : World) :
    Calls Tryz.prog 120 #[.string s, .int .i64 i] w fun e w' => ∃ b, e = thrown (.iface 83 (.pointer (some ⟨b, 0, none⟩))) ∧ w'.heap[b]? = some (.cells #[.int .i64 i] 94 (0, 0)) ∧ w.heap.size ≤ b ∧ Below w.heap.size w w' := by
  obtain ⟨hz, hc0, hne⟩ := rest_facts s i hi hs
  obtain ⟨r, hr⟩ : ∃ r, s.extract i s.size = r := ⟨_, rfl⟩
  have hxx0 : i + n ≤ s.size → r.extract 0 n = s.extract i (i + n) := fun h => by
    rw [← hr, ByteArray.extract_extract]
    congr 1
    omega
  have hrun := run_rest lfI s i (by omega)
  have hge : i < run lfI s i := by
    rw [run_step lfI s i hi (by simp [lfI, hl])]
    have := run_ge lfI s (i + 1)
    omega
  have hle := run_le lfI s i (by omega)
  rw [hr] at hz hc0 hne
  have h0 : 0 < r.size := by omega
  have hcc := chr_eq r 0 h0
  rw [hc0] at hcc
  have hr300 : r.size ≤ 300 := by omega
  clear hxx0
  have HL : Hid (∀ w, Calls Tryz.prog 137 #[.int .u8 (chr s i)] w fun e w' => e = .returned (.bool true) ∧ w' = w) := fun w => by have := pletter_any (chr s i) w; rw [hl] at this; exact this
  have HD : Hid (∀ w, Calls Tryz.prog 118 #[.string r, .func (Fn.func 138) #[] #[]] w fun e w' => e = .returned (.int .i64 n) ∧ w' = w) := fun w => by have := lead_ld r hr300 w; rw [show run lfI r 0 = n from by rw [← hr]; omega] at this; exact this
  have hn1 : 0 < n := by omega
  have hnr : n ≤ r.size := by omega
  generalize chr s i = c at *
  clear hrun hge hle hN hl
  go_enter Tryz.func120, Tryz.ntmps120
  go_wp2_with (first | (go_at_call 137; refine Calls.mono (HL.out _) ?_; rintro e w' ⟨rfl, hww⟩; rw [hww]; clear hww w') | (go_at_call 118; refine Calls.mono (HD.out _) ?_; rintro e w' ⟨rfl, hww⟩; rw [hww]; clear hww w') | (go_at_call 54; refine Calls.mono (prefuse_syn _ _) ?_; rintro e w' ⟨he, hww⟩; rw [hww, he]; clear hww he w' e))
  refine ⟨rfl, _, rfl, ?_, ?_, ?_⟩
  · have := heap_alloc_new ((w.alloc (.cells #[.int .i64 0, .int .i64 0, .string { data := #[] }] 189)).alloc (.cells #[.int .i64 1, .int .i64 i, .string { data := #[] }] 189)) (.cells #[.int .i64 i] 94)
    simpa using this
  · omega
  · exact (((Below.refl _ _).alloc (by simp) _).alloc (by simp) _).alloc (by simp; omega) _

set_option maxRecDepth 20000 in
set_option maxHeartbeats 2000000 in
theorem ptok_num_bad (s : ByteArray) (i n : Nat) (hs : s.size ≤ 300) (hi : i < s.size) (hl : lowI (chr s i) = false) (hf : figI (chr s i) = true) (hN : run figI s i = i + n) (hn : 8 < n) (w : World) :
    Calls Tryz.prog 120 #[.string s, .int .i64 i] w fun e w' => ∃ b, e = thrown (.iface 83 (.pointer (some ⟨b, 0, none⟩))) ∧ w'.heap[b]? = some (.cells #[.int .i64 i] 94 (0, 0)) ∧ w.heap.size ≤ b ∧ Below w.heap.size w w' := by
  obtain ⟨hz, hc0, hne⟩ := rest_facts s i hi hs
  obtain ⟨r, hr⟩ : ∃ r, s.extract i s.size = r := ⟨_, rfl⟩
  have hxx0 : i + n ≤ s.size → r.extract 0 n = s.extract i (i + n) := fun h => by
    rw [← hr, ByteArray.extract_extract]
    congr 1
    omega
  have hrun := run_rest figI s i (by omega)
  have hge : i < run figI s i := by
    rw [run_step figI s i hi (by simp [hf])]
    have := run_ge figI s (i + 1)
    omega
  have hle := run_le figI s i (by omega)
  rw [hr] at hz hc0 hne
  have h0 : 0 < r.size := by omega
  have hcc := chr_eq r 0 h0
  rw [hc0] at hcc
  have hr300 : r.size ≤ 300 := by omega
  clear hxx0
  have HL : Hid (∀ w, Calls Tryz.prog 137 #[.int .u8 (chr s i)] w fun e w' => e = .returned (.bool false) ∧ w' = w) := fun w => by have := pletter_any (chr s i) w; rw [hl] at this; exact this
  have HG : Hid (∀ w, Calls Tryz.prog 154 #[.int .u8 (chr s i)] w fun e w' => e = .returned (.bool true) ∧ w' = w) := fun w => by have := pdigit_any (chr s i) w; rw [hf] at this; exact this
  have HD : Hid (∀ w, Calls Tryz.prog 118 #[.string r, .func (Fn.func 154) #[] #[]] w fun e w' => e = .returned (.int .i64 n) ∧ w' = w) := fun w => by have := lead_digit r hr300 w; rw [show run figI r 0 = n from by rw [← hr]; omega] at this; exact this
  have hn1 : 0 < n := by omega
  have hnr : n ≤ r.size := by omega
  generalize chr s i = c at *
  clear hrun hge hle hN hl hf
  go_enter Tryz.func120, Tryz.ntmps120
  go_wp2_with (first | (go_at_call 137; refine Calls.mono (HL.out _) ?_; rintro e w' ⟨rfl, hww⟩; rw [hww]; clear hww w') | (go_at_call 154; refine Calls.mono (HG.out _) ?_; rintro e w' ⟨rfl, hww⟩; rw [hww]; clear hww w') | (go_at_call 118; refine Calls.mono (HD.out _) ?_; rintro e w' ⟨rfl, hww⟩; rw [hww]; clear hww w') | (go_at_call 54; refine Calls.mono (prefuse_syn _ _) ?_; rintro e w' ⟨he, hww⟩; rw [hww, he]; clear hww he w' e))
  refine ⟨rfl, _, rfl, ?_, ?_, ?_⟩
  · have := heap_alloc_new ((w.alloc (.cells #[.int .i64 0, .int .i64 0, .string { data := #[] }] 189)).alloc (.cells #[.int .i64 2, .int .i64 i, .string { data := #[] }] 189)) (.cells #[.int .i64 i] 94)
    simpa using this
  · omega
  · exact (((Below.refl _ _).alloc (by simp) _).alloc (by simp) _).alloc (by simp; omega) _

set_option maxRecDepth 20000 in
set_option maxHeartbeats 2000000 in
theorem ptok_sign (s : ByteArray) (i n : Nat) (hs : s.size ≤ 300) (hi : i < s.size) (hl : lowI (chr s i) = false) (hf : figI (chr s i) = false) (hV : (if chr s i = 45 ∧ 1 < s.size - i ∧ chr s (i + 1) = 62 then (2 : Int) else if isSign (chr s i) then 1 else 0) = n) (hn : 0 < n) (hn2 : n ≤ 2) (hnr0 : i + n ≤ s.size) (w : World) :
    Calls Tryz.prog 120 #[.string s, .int .i64 i] w fun e w' => e = .returned (.agg #[.int .i64 3, .int .i64 i, .string (s.extract i (i + n))]) ∧ Below w.heap.size w w' := by
  obtain ⟨hz, hc0, hne⟩ := rest_facts s i hi hs
  obtain ⟨r, hr⟩ : ∃ r, s.extract i s.size = r := ⟨_, rfl⟩
  have hxx0 : i + n ≤ s.size → r.extract 0 n = s.extract i (i + n) := fun h => by
    rw [← hr, ByteArray.extract_extract]
    congr 1
    omega
  have hc1 := chr_rest s i 1 (by omega)
  rw [hr] at hz hc0 hne
  have h0 : 0 < r.size := by omega
  have hcc := chr_eq r 0 h0
  rw [hc0] at hcc
  have hr300 : r.size ≤ 300 := by omega
  have hxx := hxx0 (by omega)
  clear hxx0
  rw [hr] at hc1
  rw [← hz] at hV
  have HL : Hid (∀ w, Calls Tryz.prog 137 #[.int .u8 (chr s i)] w fun e w' => e = .returned (.bool false) ∧ w' = w) := fun w => by have := pletter_any (chr s i) w; rw [hl] at this; exact this
  have HG : Hid (∀ w, Calls Tryz.prog 154 #[.int .u8 (chr s i)] w fun e w' => e = .returned (.bool false) ∧ w' = w) := fun w => by have := pdigit_any (chr s i) w; rw [hf] at this; exact this
  have HS : Hid (∀ w, Calls Tryz.prog 155 #[.string r] w fun e w' => e = .returned (.int .i64 n) ∧ w' = w) := fun w => by
    have := signlen_any r hr300 h0 w
    rw [hc0, hc1] at this
    rw [hV] at this
    exact this
  have hnr : n ≤ r.size := by omega
  clear hV hc1 hl hf
  generalize chr s i = c at *
  rw [← hxx]
  clear hxx
  obtain ⟨w2, hw2⟩ : ∃ w2, w2 = (w.alloc (.cells #[.int .i64 3, .int .i64 i, .string (r.extract 0 n)] 189)).alloc (.cells #[.int .i64 3, .int .i64 i, .string (r.extract 0 n)] 189) := ⟨_, rfl⟩
  have hb : Below w.heap.size w w2 := by rw [hw2]; exact ((Below.refl _ _).alloc (by simp) _).alloc (by simp) _
  have hrr : w2.heap[w.heap.size]? = some (.cells #[.int .i64 3, .int .i64 i, .string (r.extract 0 n)] 189 (0, 0)) := by rw [hw2, Below.heap_alloc _ _ _ (by simp)]; exact heap_alloc_new _ _
  have HB : Hid _ := hb
  have HR : Hid _ := hrr
  have HW : Hid _ := hw2
  have hb8 : decide (8 < (n : Int)) = false := by simp; omega
  have hb0 : ((n : Int) == 0) = false := by simp; omega
  clear hb hrr hw2
  go_enter Tryz.func120, Tryz.ntmps120
  go_wp2_with (first | (go_at_call 137; refine Calls.mono (HL.out _) ?_; rintro e w' ⟨rfl, hww⟩; rw [hww]; clear hww w') | (go_at_call 154; refine Calls.mono (HG.out _) ?_; rintro e w' ⟨rfl, hww⟩; rw [hww]; clear hww w') | (go_at_call 155; refine Calls.mono (HS.out _) ?_; rintro e w' ⟨rfl, hww⟩; rw [hww]; clear hww w'))
  rw [← HW.out]
  have hrr := HR.out
  have d0 : w2.cell? ⟨w.heap.size, 0, none⟩ = some (.int .i64 3) := by simp [World.cell?, hrr]
  have d1 : w2.cell? ⟨w.heap.size, 1, none⟩ = some (.int .i64 i) := by simp [World.cell?, hrr]
  have d2 : w2.cell? ⟨w.heap.size, 2, none⟩ = some (.string (r.extract 0 n)) := by simp [World.cell?, hrr]
  exact bodyPost_ret (v := .agg #[.int .i64 3, .int .i64 i, .string (r.extract 0 n)]) (by simp [results, Tryz.results120, go_sem, d0, d1, d2]) rfl ⟨rfl, HB.out⟩

set_option maxRecDepth 20000 in
set_option maxHeartbeats 2000000 in
theorem ptok_sign_bad (s : ByteArray) (i n : Nat) (hs : s.size ≤ 300) (hi : i < s.size) (hl : lowI (chr s i) = false) (hf : figI (chr s i) = false) (hV : (if chr s i = 45 ∧ 1 < s.size - i ∧ chr s (i + 1) = 62 then (2 : Int) else if isSign (chr s i) then 1 else 0) = n) (hn : n = 0) (w : World) :
    Calls Tryz.prog 120 #[.string s, .int .i64 i] w fun e w' => ∃ b, e = thrown (.iface 83 (.pointer (some ⟨b, 0, none⟩))) ∧ w'.heap[b]? = some (.cells #[.int .i64 i] 94 (0, 0)) ∧ w.heap.size ≤ b ∧ Below w.heap.size w w' := by
  obtain ⟨hz, hc0, hne⟩ := rest_facts s i hi hs
  obtain ⟨r, hr⟩ : ∃ r, s.extract i s.size = r := ⟨_, rfl⟩
  have hxx0 : i + n ≤ s.size → r.extract 0 n = s.extract i (i + n) := fun h => by
    rw [← hr, ByteArray.extract_extract]
    congr 1
    omega
  have hc1 := chr_rest s i 1 (by omega)
  rw [hr] at hz hc0 hne
  have h0 : 0 < r.size := by omega
  have hcc := chr_eq r 0 h0
  rw [hc0] at hcc
  have hr300 : r.size ≤ 300 := by omega
  clear hxx0
  rw [hr] at hc1
  rw [← hz] at hV
  have HL : Hid (∀ w, Calls Tryz.prog 137 #[.int .u8 (chr s i)] w fun e w' => e = .returned (.bool false) ∧ w' = w) := fun w => by have := pletter_any (chr s i) w; rw [hl] at this; exact this
  have HG : Hid (∀ w, Calls Tryz.prog 154 #[.int .u8 (chr s i)] w fun e w' => e = .returned (.bool false) ∧ w' = w) := fun w => by have := pdigit_any (chr s i) w; rw [hf] at this; exact this
  have HS : Hid (∀ w, Calls Tryz.prog 155 #[.string r] w fun e w' => e = .returned (.int .i64 n) ∧ w' = w) := fun w => by
    have := signlen_any r hr300 h0 w
    rw [hc0, hc1] at this
    rw [hV] at this
    exact this
  subst hn
  clear hV hc1 hl hf
  generalize chr s i = c at *
  go_enter Tryz.func120, Tryz.ntmps120
  go_wp2_with (first | (go_at_call 137; refine Calls.mono (HL.out _) ?_; rintro e w' ⟨rfl, hww⟩; rw [hww]; clear hww w') | (go_at_call 154; refine Calls.mono (HG.out _) ?_; rintro e w' ⟨rfl, hww⟩; rw [hww]; clear hww w') | (go_at_call 155; refine Calls.mono (HS.out _) ?_; rintro e w' ⟨rfl, hww⟩; rw [hww]; clear hww w') | (go_at_call 54; refine Calls.mono (prefuse_syn _ _) ?_; rintro e w' ⟨he, hww⟩; rw [hww, he]; clear hww he w' e))
  refine ⟨rfl, _, rfl, ?_, ?_, ?_⟩
  · have := heap_alloc_new ((w.alloc (.cells #[.int .i64 0, .int .i64 0, .string { data := #[] }] 189)).alloc (.cells #[.int .i64 3, .int .i64 i, .string { data := #[] }] 189)) (.cells #[.int .i64 i] 94)
    simpa using this
  · omega
  · exact (((Below.refl _ _).alloc (by simp) _).alloc (by simp) _).alloc (by simp; omega) _

end Go.Proofs.YtleenphlgbklmabGreatDoor
