import Derived.Test.YtleenphlgbklmabGreatDoorZPEq
import Derived.Test.YtleenphlgbklmabGreatDoorZTGood
set_option linter.unusedVariables false
set_option linter.unusedSimpArgs false
namespace Go.Proofs.YtleenphlgbklmabGreatDoor
open Go.RowKit

theorem Tryz.mLB (v : Value) (w : World) : (Go.method 473 149 v "schemes/infer.below").run Tryz.prog w = .ok (227, v) w := by kernel_rfl
theorem Tryz.mPB (v : Value) (w : World) : (Go.method 473 153 v "schemes/infer.below").run Tryz.prog w = .ok (228, v) w := by kernel_rfl
theorem Tryz.mAB (v : Value) (w : World) : (Go.method 473 157 v "schemes/infer.below").run Tryz.prog w = .ok (229, v) w := by kernel_rfl
theorem Tryz.mVB (v : Value) (w : World) : (Go.method 473 124 v "schemes/infer.below").run Tryz.prog w = .ok (222, v) w := by kernel_rfl
theorem Tryz.mBB (v : Value) (w : World) : (Go.method 473 271 v "schemes/infer.below").run Tryz.prog w = .ok (243, v) w := by kernel_rfl
theorem Kept.drew (w : World) : Kept w w.drew := ⟨rfl, rfl, Nat.le_refl _, fun _ _ => rfl⟩

theorem below_list (w : World) (b : Nat) (T : TypeId) (u : Value) (hb : w.heap[b]? = some (.cells #[.nilIface, .iface T u] 152 (0, 0))) : Calls Tryz.prog 227 #[.pointer (some ⟨b, 0, none⟩)] w fun e w' => e = .returned (.slice (some ⟨w.heap.size, 0, none⟩) 1 1) ∧ w' = w.alloc (.cells #[.iface T u] 77) := by
  have c0 : w.cell? ⟨b, 1, none⟩ = some (.iface T u) := by simp [World.cell?, hb]
  clear hb
  go_enter Tryz.func227, Tryz.ntmps227
  go_wp2
  go_ret
  exact ⟨rfl, rfl⟩
theorem below_pair (w : World) (b : Nat) (T : TypeId) (u : Value) (T2 : TypeId) (u2 : Value) (hb : w.heap[b]? = some (.cells #[.nilIface, .iface T u, .iface T2 u2] 156 (0, 0))) : Calls Tryz.prog 228 #[.pointer (some ⟨b, 0, none⟩)] w fun e w' => e = .returned (.slice (some ⟨w.heap.size, 0, none⟩) 2 2) ∧ ∃ n, w' = (w.drewN n).alloc (.cells #[.iface T u, .iface T2 u2] 77) := by
  have c0 : w.cell? ⟨b, 1, none⟩ = some (.iface T u) := by simp [World.cell?, hb]
  have c1 : w.cell? ⟨b, 2, none⟩ = some (.iface T2 u2) := by simp [World.cell?, hb]
  clear hb
  go_enter Tryz.func228, Tryz.ntmps228
  go_wp2
  go_region
  go_wp2
  go_ret
  exact ⟨rfl, 1, rfl⟩
theorem below_arr (w : World) (b : Nat) (T : TypeId) (u : Value) (T2 : TypeId) (u2 : Value) (hb : w.heap[b]? = some (.cells #[.nilIface, .iface T u, .iface T2 u2] 160 (0, 0))) : Calls Tryz.prog 229 #[.pointer (some ⟨b, 0, none⟩)] w fun e w' => e = .returned (.slice (some ⟨w.heap.size, 0, none⟩) 2 2) ∧ ∃ n, w' = (w.drewN n).alloc (.cells #[.iface T u, .iface T2 u2] 77) := by
  have c0 : w.cell? ⟨b, 1, none⟩ = some (.iface T u) := by simp [World.cell?, hb]
  have c1 : w.cell? ⟨b, 2, none⟩ = some (.iface T2 u2) := by simp [World.cell?, hb]
  clear hb
  go_enter Tryz.func229, Tryz.ntmps229
  go_wp2
  go_region
  go_wp2
  go_ret
  exact ⟨rfl, 1, rfl⟩
theorem Kept.drewN (w : World) (n : Nat) : Kept w (w.drewN n) := ⟨rfl, rfl, Nat.le_refl _, fun _ _ => rfl⟩
theorem VBlk.kept {w w' : World} {b : Nat} (h : VBlk w b) (hk : Kept w w') : VBlk w' b := by
  obtain ⟨s, hs⟩ := h
  exact ⟨s, hk.blk hs⟩
theorem Kept.of0 {w w' : World} (h : Kp (fun _ => False) w w') : Kept w w' := ⟨h.os, h.output, h.size, fun q hq => h.block q hq (fun z => z)⟩
/-- what is left of the room. -/
def RoomR (n : Nat) (room : Int) (r : Int) : Prop := ((n : Int) ≤ room → r = room - n) ∧ (room < n → r < 0) ∧ -1 ≤ r ∧ r ≤ room
def SRoom (vb : List Nat) (t : Ty) : Prop := ∀ (w : World) (v : Value) (room : Int), PTy w vb t v → (∀ c, c ∈ vb → VBlk w c) → 0 ≤ room → room ≤ 1000000 →
  Calls Tryz.prog 82 #[v, .int .i64 room] w fun e w' => ∃ r : Int, e = .returned (.int .i64 r) ∧ Hid (RoomR (sz t) room r) ∧ -1 ≤ r ∧ r ≤ 1000000 ∧ Kept w w'
set_option maxRecDepth 20000 in
set_option maxHeartbeats 2000000 in
theorem room_var (vb : List Nat) (n : Nat) (b : Nat) (hn : vb[n]? = some b) (w : World) (room : Int) (hv : ∀ c, c ∈ vb → VBlk w c) (h0 : 0 ≤ room) (h2 : room ≤ 1000000) :
    Calls Tryz.prog 82 #[.iface 124 (.pointer (some ⟨b, 0, none⟩)), .int .i64 room] w fun e w' => ∃ r : Int, e = .returned (.int .i64 r) ∧ Hid (RoomR (sz (.mk { data := #[] } n [])) room r) ∧ -1 ≤ r ∧ r ≤ 1000000 ∧ Kept w w' := by
  have HK : Hid _ := known_any (.var n b hn) hv
  have e : sz (.mk { data := #[] } n []) = 1 := by simp [sz, szs]
  rw [e]
  clear e hv
  go_enter Tryz.func82, Tryz.ntmps82
  go_wp2_with fail
  refine Calls.mono HK.out ?_
  rintro e w1 ⟨rfl, hk1⟩
  have hm := Tryz.mVB (.pointer (some ⟨b, 0, none⟩)) w1
  have HKK : Hid _ := Kept.of0 hk1
  clear HK
  go_wp2
  refine wp_loop_rounds 1 ?_
  rw [rounds_succ]
  go_wp2
  go_ret
  exact ⟨room - 1, rfl, ⟨fun _ => by omega, fun _ => by omega, by omega, by omega⟩, by omega, by omega, HKK.out⟩
set_option maxRecDepth 20000 in
set_option maxHeartbeats 2000000 in
theorem room_base (vb : List Nat) (kd : ByteArray) (h1 : kd = { data := #[105, 110, 116] } ∨ kd = { data := #[98, 111, 111, 108] })  (w : World) (room : Int) (hv : ∀ c, c ∈ vb → VBlk w c) (h0 : 0 ≤ room) (h2 : room ≤ 1000000) :
    Calls Tryz.prog 82 #[.iface 271 (.agg #[.string kd]), .int .i64 room] w fun e w' => ∃ r : Int, e = .returned (.int .i64 r) ∧ Hid (RoomR (sz (.mk kd 0 [])) room r) ∧ -1 ≤ r ∧ r ≤ 1000000 ∧ Kept w w' := by
  have HK : Hid _ := known_any (.base kd h1) hv
  have e : sz (.mk kd 0 []) = 1 := by simp [sz, szs]
  rw [e]
  clear e hv
  go_enter Tryz.func82, Tryz.ntmps82
  go_wp2_with fail
  refine Calls.mono HK.out ?_
  rintro e w1 ⟨rfl, hk1⟩
  have hm := Tryz.mBB (.agg #[.string kd]) w1
  have HKK : Hid _ := Kept.of0 hk1
  clear HK
  go_wp2
  refine wp_loop_rounds 1 ?_
  rw [rounds_succ]
  go_wp2
  go_ret
  exact ⟨room - 1, rfl, ⟨fun _ => by omega, fun _ => by omega, by omega, by omega⟩, by omega, by omega, HKK.out.trans (Kept.alloc _ _)⟩
set_option maxRecDepth 20000 in
set_option maxHeartbeats 2000000 in
theorem room_list (vb : List Nat) (a : Ty) (iha : SRoom vb a) (w : World) (b : Nat) (p : Value) (hb : w.heap[b]? = some (.cells #[.nilIface, p] 152 (0, 0))) (ha : PTy w vb a p) (room : Int) (hv : ∀ c, c ∈ vb → VBlk w c) (h0 : 0 ≤ room) (h2 : room ≤ 1000000) :
    Calls Tryz.prog 82 #[.iface 149 (.pointer (some ⟨b, 0, none⟩)), .int .i64 room] w fun e w' => ∃ r : Int, e = .returned (.int .i64 r) ∧ Hid (RoomR (sz (.mk { data := #[108, 105, 115, 116] } 0 [a])) room r) ∧ -1 ≤ r ∧ r ≤ 1000000 ∧ Kept w w' := by
  have HK : Hid _ := known_any (.list a b p hb ha) hv
  obtain ⟨T, u, rfl⟩ := ha.iface
  have e : sz (.mk { data := #[108, 105, 115, 116] } 0 [a]) = sz a + 1 := by simp [sz, szs]
  rw [e]
  have IHA : Hid (∀ w1 r, Kept w w1 → 0 ≤ r → r ≤ 1000000 → Calls Tryz.prog 82 #[.iface T u, .int .i64 r] w1 fun e w' => ∃ r' : Int, e = .returned (.int .i64 r') ∧ Hid (RoomR (sz a) r r') ∧ -1 ≤ r' ∧ r' ≤ 1000000 ∧ Kept w1 w') := fun w1 r hk h1 h2 => iha w1 _ r (ha.keep (PKeep.kept hk)) (fun c hc => (hv c hc).kept hk) h1 h2
  generalize sz a = na at *
  clear e hv iha ha
  go_enter Tryz.func82, Tryz.ntmps82
  go_wp2_with fail
  refine Calls.mono HK.out ?_
  rintro e w1 ⟨rfl, hk1⟩
  have hm := Tryz.mLB (.pointer (some ⟨b, 0, none⟩)) w1
  have hkk := Kept.of0 hk1
  have HB : Hid _ := below_list w1 b T u (hkk.blk hb)
  have hka : Kept w1 (w1.alloc (.cells #[.iface T u] 77)) := Kept.alloc _ _
  have hbl : (w1.alloc (.cells #[.iface T u] 77)).heap[w1.heap.size]? = some (.cells #[.iface T u] 77 (0, 0)) := heap_alloc_new _ _
  clear HK hk1 hb
  go_wp2_with fail
  refine Calls.mono HB.out ?_
  rintro e w2 ⟨rfl, hw2⟩
  rw [← hw2] at hka hbl
  have hkw := hkk.trans hka
  clear hw2 HB hka hkk
  have d0 : w2.cell? ⟨w1.heap.size, 0, none⟩ = some (.iface T u) := by simp [World.cell?, hbl]
  clear hbl
  by_cases hr : room = 0
  · subst hr
    go_wp2_with fail
    refine wp_loop_rounds 2 ?_
    rw [rounds_succ]
    go_wp2
    go_ret
    exact ⟨-1, rfl, ⟨fun _ => by omega, fun _ => by omega, by omega, by omega⟩, by omega, by omega, hkw⟩
  · have hlt : ¬ room - 1 < 0 := by omega
    go_wp2_with fail
    refine wp_loop_rounds 2 ?_
    rw [rounds_succ]
    go_wp2_with fail
    refine Calls.mono (IHA.out w2 (room - 1) hkw (by omega) (by omega)) ?_
    rintro e w3 ⟨r, rfl, HR, hr1, hr2, hk3⟩
    have HF : Hid (RoomR (na + 1) room r) := by
      obtain ⟨q1, q2, q3, q4⟩ := HR.out
      exact ⟨fun h => by have := q1 (by omega); omega, fun h => q2 (by omega), q3, by omega⟩
    clear HR IHA
    go_wp2
    rw [rounds_succ]
    go_wp2
    go_ret
    exact ⟨r, rfl, HF, hr1, hr2, hkw.trans hk3⟩
set_option maxRecDepth 20000 in
set_option maxHeartbeats 2000000 in
theorem room_pair (vb : List Nat) (a c : Ty) (iha : SRoom vb a) (ihc : SRoom vb c) (w : World) (b : Nat) (p q : Value) (hb : w.heap[b]? = some (.cells #[.nilIface, p, q] 156 (0, 0))) (ha : PTy w vb a p) (hc : PTy w vb c q) (room : Int) (hv : ∀ c, c ∈ vb → VBlk w c) (h0 : 0 ≤ room) (h2 : room ≤ 1000000) :
    Calls Tryz.prog 82 #[.iface 153 (.pointer (some ⟨b, 0, none⟩)), .int .i64 room] w fun e w' => ∃ r : Int, e = .returned (.int .i64 r) ∧ Hid (RoomR (sz (.mk { data := #[112, 97, 105, 114] } 0 [a, c])) room r) ∧ -1 ≤ r ∧ r ≤ 1000000 ∧ Kept w w' := by
  have HK : Hid _ := known_any (.pair a c b p q hb ha hc) hv
  obtain ⟨T, u, rfl⟩ := ha.iface
  obtain ⟨T2, u2, rfl⟩ := hc.iface
  have e : sz (.mk { data := #[112, 97, 105, 114] } 0 [a, c]) = sz a + sz c + 1 := by simp [sz, szs]
  rw [e]
  have IHA : Hid (∀ w1 r, Kept w w1 → 0 ≤ r → r ≤ 1000000 → Calls Tryz.prog 82 #[.iface T u, .int .i64 r] w1 fun e w' => ∃ r' : Int, e = .returned (.int .i64 r') ∧ Hid (RoomR (sz a) r r') ∧ -1 ≤ r' ∧ r' ≤ 1000000 ∧ Kept w1 w') := fun w1 r hk h1 h2 => iha w1 _ r (ha.keep (PKeep.kept hk)) (fun c hc => (hv c hc).kept hk) h1 h2
  have IHC : Hid (∀ w1 r, Kept w w1 → 0 ≤ r → r ≤ 1000000 → Calls Tryz.prog 82 #[.iface T2 u2, .int .i64 r] w1 fun e w' => ∃ r' : Int, e = .returned (.int .i64 r') ∧ Hid (RoomR (sz c) r r') ∧ -1 ≤ r' ∧ r' ≤ 1000000 ∧ Kept w1 w') := fun w1 r hk h1 h2 => ihc w1 _ r (hc.keep (PKeep.kept hk)) (fun c hc => (hv c hc).kept hk) h1 h2
  generalize sz a = na at *
  generalize sz c = nc at *
  clear e hv iha ihc ha hc
  go_enter Tryz.func82, Tryz.ntmps82
  go_wp2_with fail
  refine Calls.mono HK.out ?_
  rintro e w1 ⟨rfl, hk1⟩
  have hm := Tryz.mPB (.pointer (some ⟨b, 0, none⟩)) w1
  have hkk := Kept.of0 hk1
  have HB : Hid _ := below_pair w1 b T u T2 u2 (hkk.blk hb)
  clear HK hk1 hb
  go_wp2_with fail
  refine Calls.mono HB.out ?_
  rintro e w2 ⟨rfl, n2, hw2⟩
  have hka : Kept w1 w2 := by rw [hw2]; exact (Kept.drewN _ _).trans (Kept.alloc _ _)
  have hbl : w2.heap[w1.heap.size]? = some (.cells #[.iface T u, .iface T2 u2] 77 (0, 0)) := by rw [hw2]; exact heap_alloc_new _ _
  have hkw := hkk.trans hka
  clear hw2 HB hka hkk
  have d0 : w2.cell? ⟨w1.heap.size, 0, none⟩ = some (.iface T u) := by simp [World.cell?, hbl]
  by_cases hr : room = 0
  · subst hr
    clear hbl
    go_wp2_with fail
    refine wp_loop_rounds 3 ?_
    rw [rounds_succ]
    go_wp2
    go_ret
    exact ⟨-1, rfl, ⟨fun _ => by omega, fun _ => by omega, by omega, by omega⟩, by omega, by omega, hkw⟩
  · have hlt : ¬ room - 1 < 0 := by omega
    go_wp2_with fail
    refine wp_loop_rounds 3 ?_
    rw [rounds_succ]
    go_wp2_with fail
    refine Calls.mono (IHA.out w2 (room - 1) hkw (by omega) (by omega)) ?_
    rintro e w3 ⟨r, rfl, HR, hr1, hr2, hk3⟩
    have hbl3 := hk3.blk hbl
    have d1 : w3.cell? ⟨w1.heap.size, 1, none⟩ = some (.iface T2 u2) := by simp [World.cell?, hbl3]
    have hkw3 := hkw.trans hk3
    have HQ : Hid (r ≤ room - 1 ∧ ((na : Int) ≤ room - 1 → r = room - 1 - na) ∧ (room - 1 < na → r < 0)) := ⟨HR.out.2.2.2, HR.out.1, HR.out.2.1⟩
    clear HR IHA hbl hbl3
    by_cases hr3 : r < 0
    · have HF : Hid (RoomR (na + nc + 1) room r) := by
        obtain ⟨q1, q2, q3⟩ := HQ.out
        exact ⟨fun h => by have := q2 (by omega); omega, fun h => hr3, hr1, by omega⟩
      go_wp2_with fail
      rw [rounds_succ]
      go_wp2
      go_ret
      exact ⟨r, rfl, HF, hr1, hr2, hkw3⟩
    · go_wp2_with fail
      rw [rounds_succ]
      go_wp2_with fail
      refine Calls.mono (IHC.out w3 r hkw3 (by omega) hr2) ?_
      rintro e w4 ⟨r4, rfl, HR4, hr41, hr42, hk4⟩
      have HF : Hid (RoomR (na + nc + 1) room r4) := by
        obtain ⟨q1, q2, q3⟩ := HQ.out
        obtain ⟨s1, s2, s3, s4⟩ := HR4.out
        have hna : (na : Int) ≤ room - 1 := by
          by_cases h : (na : Int) ≤ room - 1
          · exact h
          · have := q3 (by omega)
            omega
        have e1 := q2 hna
        exact ⟨fun h => by have := s1 (by omega); omega, fun h => s2 (by omega), hr41, by omega⟩
      clear HR4 IHC HQ
      go_wp2
      rw [rounds_succ]
      go_wp2
      go_ret
      exact ⟨r4, rfl, HF, hr41, hr42, hkw3.trans hk4⟩
set_option maxRecDepth 20000 in
set_option maxHeartbeats 2000000 in
theorem room_fn (vb : List Nat) (a c : Ty) (iha : SRoom vb a) (ihc : SRoom vb c) (w : World) (b : Nat) (p q : Value) (hb : w.heap[b]? = some (.cells #[.nilIface, p, q] 160 (0, 0))) (ha : PTy w vb a p) (hc : PTy w vb c q) (room : Int) (hv : ∀ c, c ∈ vb → VBlk w c) (h0 : 0 ≤ room) (h2 : room ≤ 1000000) :
    Calls Tryz.prog 82 #[.iface 157 (.pointer (some ⟨b, 0, none⟩)), .int .i64 room] w fun e w' => ∃ r : Int, e = .returned (.int .i64 r) ∧ Hid (RoomR (sz (.mk { data := #[102, 117, 110] } 0 [a, c])) room r) ∧ -1 ≤ r ∧ r ≤ 1000000 ∧ Kept w w' := by
  have HK : Hid _ := known_any (.fn a c b p q hb ha hc) hv
  obtain ⟨T, u, rfl⟩ := ha.iface
  obtain ⟨T2, u2, rfl⟩ := hc.iface
  have e : sz (.mk { data := #[102, 117, 110] } 0 [a, c]) = sz a + sz c + 1 := by simp [sz, szs]
  rw [e]
  have IHA : Hid (∀ w1 r, Kept w w1 → 0 ≤ r → r ≤ 1000000 → Calls Tryz.prog 82 #[.iface T u, .int .i64 r] w1 fun e w' => ∃ r' : Int, e = .returned (.int .i64 r') ∧ Hid (RoomR (sz a) r r') ∧ -1 ≤ r' ∧ r' ≤ 1000000 ∧ Kept w1 w') := fun w1 r hk h1 h2 => iha w1 _ r (ha.keep (PKeep.kept hk)) (fun c hc => (hv c hc).kept hk) h1 h2
  have IHC : Hid (∀ w1 r, Kept w w1 → 0 ≤ r → r ≤ 1000000 → Calls Tryz.prog 82 #[.iface T2 u2, .int .i64 r] w1 fun e w' => ∃ r' : Int, e = .returned (.int .i64 r') ∧ Hid (RoomR (sz c) r r') ∧ -1 ≤ r' ∧ r' ≤ 1000000 ∧ Kept w1 w') := fun w1 r hk h1 h2 => ihc w1 _ r (hc.keep (PKeep.kept hk)) (fun c hc => (hv c hc).kept hk) h1 h2
  generalize sz a = na at *
  generalize sz c = nc at *
  clear e hv iha ihc ha hc
  go_enter Tryz.func82, Tryz.ntmps82
  go_wp2_with fail
  refine Calls.mono HK.out ?_
  rintro e w1 ⟨rfl, hk1⟩
  have hm := Tryz.mAB (.pointer (some ⟨b, 0, none⟩)) w1
  have hkk := Kept.of0 hk1
  have HB : Hid _ := below_arr w1 b T u T2 u2 (hkk.blk hb)
  clear HK hk1 hb
  go_wp2_with fail
  refine Calls.mono HB.out ?_
  rintro e w2 ⟨rfl, n2, hw2⟩
  have hka : Kept w1 w2 := by rw [hw2]; exact (Kept.drewN _ _).trans (Kept.alloc _ _)
  have hbl : w2.heap[w1.heap.size]? = some (.cells #[.iface T u, .iface T2 u2] 77 (0, 0)) := by rw [hw2]; exact heap_alloc_new _ _
  have hkw := hkk.trans hka
  clear hw2 HB hka hkk
  have d0 : w2.cell? ⟨w1.heap.size, 0, none⟩ = some (.iface T u) := by simp [World.cell?, hbl]
  by_cases hr : room = 0
  · subst hr
    clear hbl
    go_wp2_with fail
    refine wp_loop_rounds 3 ?_
    rw [rounds_succ]
    go_wp2
    go_ret
    exact ⟨-1, rfl, ⟨fun _ => by omega, fun _ => by omega, by omega, by omega⟩, by omega, by omega, hkw⟩
  · have hlt : ¬ room - 1 < 0 := by omega
    go_wp2_with fail
    refine wp_loop_rounds 3 ?_
    rw [rounds_succ]
    go_wp2_with fail
    refine Calls.mono (IHA.out w2 (room - 1) hkw (by omega) (by omega)) ?_
    rintro e w3 ⟨r, rfl, HR, hr1, hr2, hk3⟩
    have hbl3 := hk3.blk hbl
    have d1 : w3.cell? ⟨w1.heap.size, 1, none⟩ = some (.iface T2 u2) := by simp [World.cell?, hbl3]
    have hkw3 := hkw.trans hk3
    have HQ : Hid (r ≤ room - 1 ∧ ((na : Int) ≤ room - 1 → r = room - 1 - na) ∧ (room - 1 < na → r < 0)) := ⟨HR.out.2.2.2, HR.out.1, HR.out.2.1⟩
    clear HR IHA hbl hbl3
    by_cases hr3 : r < 0
    · have HF : Hid (RoomR (na + nc + 1) room r) := by
        obtain ⟨q1, q2, q3⟩ := HQ.out
        exact ⟨fun h => by have := q2 (by omega); omega, fun h => hr3, hr1, by omega⟩
      go_wp2_with fail
      rw [rounds_succ]
      go_wp2
      go_ret
      exact ⟨r, rfl, HF, hr1, hr2, hkw3⟩
    · go_wp2_with fail
      rw [rounds_succ]
      go_wp2_with fail
      refine Calls.mono (IHC.out w3 r hkw3 (by omega) hr2) ?_
      rintro e w4 ⟨r4, rfl, HR4, hr41, hr42, hk4⟩
      have HF : Hid (RoomR (na + nc + 1) room r4) := by
        obtain ⟨q1, q2, q3⟩ := HQ.out
        obtain ⟨s1, s2, s3, s4⟩ := HR4.out
        have hna : (na : Int) ≤ room - 1 := by
          by_cases h : (na : Int) ≤ room - 1
          · exact h
          · have := q3 (by omega)
            omega
        have e1 := q2 hna
        exact ⟨fun h => by have := s1 (by omega); omega, fun h => s2 (by omega), hr41, by omega⟩
      clear HR4 IHC HQ
      go_wp2
      rw [rounds_succ]
      go_wp2
      go_ret
      exact ⟨r4, rfl, HF, hr41, hr42, hkw3.trans hk4⟩
theorem room_any (vb : List Nat) (t : Ty) : SRoom vb t := by
  induction t using Ty.ind with
  | h kd n kids ih =>
  intro w v room h hv h0 h2
  cases h with
  | var n b hb => exact room_var vb n b hb w room hv h0 h2
  | base kd hk => exact room_base vb kd hk w room hv h0 h2
  | list a b p hb ha => exact room_list vb a (ih a (by simp)) w b p hb ha room hv h0 h2
  | pair a c b p q hb ha hc => exact room_pair vb a c (ih a (by simp)) (ih c (by simp)) w b p q hb ha hc room hv h0 h2
  | fn a c b p q hb ha hc => exact room_fn vb a c (ih a (by simp)) (ih c (by simp)) w b p q hb ha hc room hv h0 h2
set_option maxRecDepth 20000 in
theorem above_ty {vb : List Nat} {t : Ty} {w : World} {v : Value} (h : PTy w vb t v) (hv : ∀ c, c ∈ vb → VBlk w c) : Calls Tryz.prog 53 #[.int .i64 120, v] w fun e w' => e = .returned (.bool (decide (120 < sz t))) ∧ Kept w w' := by
  obtain ⟨T, u, rfl⟩ := h.iface
  have HR : Hid _ := room_any vb t w _ 120 h hv (by omega) (by omega)
  clear h hv
  go_enter Tryz.func53, Tryz.ntmps53
  go_wp2_with fail
  refine Calls.mono HR.out ?_
  rintro e w1 ⟨r, rfl, HQ, hr1, hr2, hk⟩
  have HE : Hid (decide (r < 0) = decide (120 < sz t)) := by
    obtain ⟨q1, q2, q3, q4⟩ := HQ.out
    show _ = _
    by_cases h : 120 < sz t
    · have := q2 (by omega)
      simp [this, h]
    · have := q1 (by omega)
      simp [h]
      omega
  clear HR HQ
  go_wp2
  go_ret
  exact ⟨by rw [← HE.out]; rfl, hk⟩
end Go.Proofs.YtleenphlgbklmabGreatDoor
