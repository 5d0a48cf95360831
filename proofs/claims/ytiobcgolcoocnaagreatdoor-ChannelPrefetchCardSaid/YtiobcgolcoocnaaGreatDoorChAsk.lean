/-
  channel's ask, walked branch by branch: what the branch's own call answers.
-/
import Derived.Test.YtiobcgolcoocnaaGreatDoorChMem
namespace Go.Proofs.YtiobcgolcoocnaaGreatDoor.Ch
open Go.RowKit Rg Sh Bt
set_option linter.unusedVariables false
set_option linter.unusedSimpArgs false

set_option maxRecDepth 100000 in
set_option maxHeartbeats 2000000 in
theorem ask_mode (g : Nat) (m : Me) (a : Option Addr) (cap : Nat) (w : World) (hid : m.id = 8510 ∨ m.id = 9010 ∨ m.id = 9020 ∨ m.id = 9030) (cd : Int) (P : Value → World → Prop)
    (hsub : ∀ w1, w1 = w.alloc (.cells (meC m a cap) 31) → Calls Tryz.prog 40 #[.pointer (some ⟨g, 0, none⟩), .int .i64 m.id] w1 fun e w2 => ∃ v, e = .returned (.tuple #[v, .int .i64 cd]) ∧ P v w2) :
    Calls Tryz.prog 20 #[.pointer (some ⟨g, 0, none⟩), .agg (meC m a cap)] w fun e w2 => ∃ v, e = .returned (.tuple #[v, .int .i64 cd]) ∧ P v w2 := by
  have q2010 : (m.id == 2010) = false := by rw [beq_eq_false_iff_ne]; omega
  have q4010 : (m.id == 4010) = false := by rw [beq_eq_false_iff_ne]; omega
  have q5010 : (m.id == 5010) = false := by rw [beq_eq_false_iff_ne]; omega
  have q5020 : (m.id == 5020) = false := by rw [beq_eq_false_iff_ne]; omega
  have q6010 : (m.id == 6010) = false := by rw [beq_eq_false_iff_ne]; omega
  have q6020 : (m.id == 6020) = false := by rw [beq_eq_false_iff_ne]; omega
  have q6070 : (m.id == 6070) = false := by rw [beq_eq_false_iff_ne]; omega
  have q6040 : (m.id == 6040) = false := by rw [beq_eq_false_iff_ne]; omega
  have q6080 : (m.id == 6080) = false := by rw [beq_eq_false_iff_ne]; omega
  have q6120 : (m.id == 6120) = false := by rw [beq_eq_false_iff_ne]; omega
  have q6090 : (m.id == 6090) = false := by rw [beq_eq_false_iff_ne]; omega
  clear hid
  have hat0 : MeAt (w.alloc (.cells (meC m a cap) 31)) w.heap.size m a cap := heap_alloc_new w _
  obtain ⟨⟨c0, c1, c2, c3, c4, c5⟩, c6, c7, c8, c9, c10, c11⟩ := hat0.cells
  have HSUB := Lib.hid hsub
  obtain ⟨mc, hmc⟩ : ∃ c, c = meC m a cap := ⟨_, rfl⟩
  have HMC := Lib.hid hmc
  rw [← hmc] at c0 c1 c2 c3 c4 c5 c6 c7 c8 c9 c10 c11 ⊢
  clear hat0 hmc hsub
  go_enter Tryz.func20, Tryz.ntmps20
  go_wp2_with (go_at_call 40; refine (HSUB.out _ (by rw [HMC.out])).mono ?_; rintro e w2 ⟨v, rfl, hp⟩; have HP := Lib.hid hp; clear hp)
  go_ret2
  exact ⟨_, rfl, HP.out⟩

set_option maxRecDepth 100000 in
set_option maxHeartbeats 2000000 in
theorem ask_queue (g : Nat) (m : Me) (a : Option Addr) (cap : Nat) (w : World) (hid : m.id = 5010) (cd : Int) (P : Value → World → Prop)
    (hsub : ∀ w1, w1 = w.alloc (.cells (meC m a cap) 31) → Calls Tryz.prog 32 #[.pointer (some ⟨g, 0, none⟩), .string m.name] w1 fun e w2 => ∃ v, e = .returned (.tuple #[v, .int .i64 cd]) ∧ P v w2) :
    Calls Tryz.prog 20 #[.pointer (some ⟨g, 0, none⟩), .agg (meC m a cap)] w fun e w2 => ∃ v, e = .returned (.tuple #[v, .int .i64 cd]) ∧ P v w2 := by
  have q2010 : (m.id == 2010) = false := by rw [beq_eq_false_iff_ne]; omega
  have q4010 : (m.id == 4010) = false := by rw [beq_eq_false_iff_ne]; omega
  have q5010 : (m.id == 5010) = true := by rw [beq_iff_eq]; omega
  clear hid
  have hat0 : MeAt (w.alloc (.cells (meC m a cap) 31)) w.heap.size m a cap := heap_alloc_new w _
  obtain ⟨⟨c0, c1, c2, c3, c4, c5⟩, c6, c7, c8, c9, c10, c11⟩ := hat0.cells
  have HSUB := Lib.hid hsub
  obtain ⟨mc, hmc⟩ : ∃ c, c = meC m a cap := ⟨_, rfl⟩
  have HMC := Lib.hid hmc
  rw [← hmc] at c0 c1 c2 c3 c4 c5 c6 c7 c8 c9 c10 c11 ⊢
  clear hat0 hmc hsub
  go_enter Tryz.func20, Tryz.ntmps20
  go_wp2_with (go_at_call 32; refine (HSUB.out _ (by rw [HMC.out])).mono ?_; rintro e w2 ⟨v, rfl, hp⟩; have HP := Lib.hid hp; clear hp)
  go_ret2
  exact ⟨_, rfl, HP.out⟩

set_option maxRecDepth 100000 in
set_option maxHeartbeats 2000000 in
theorem ask_publish (g : Nat) (m : Me) (a : Option Addr) (cap : Nat) (w : World) (hid : m.id = 6040) (cd : Int) (P : Value → World → Prop)
    (hsub : ∀ w1, w1 = w.alloc (.cells (meC m a cap) 31) → Calls Tryz.prog 38 #[.pointer (some ⟨g, 0, none⟩), .agg (meC m a cap)] w1 fun e w2 => ∃ v, e = .returned (.tuple #[v, .int .i64 cd]) ∧ P v w2) :
    Calls Tryz.prog 20 #[.pointer (some ⟨g, 0, none⟩), .agg (meC m a cap)] w fun e w2 => ∃ v, e = .returned (.tuple #[v, .int .i64 cd]) ∧ P v w2 := by
  have q2010 : (m.id == 2010) = false := by rw [beq_eq_false_iff_ne]; omega
  have q4010 : (m.id == 4010) = false := by rw [beq_eq_false_iff_ne]; omega
  have q5010 : (m.id == 5010) = false := by rw [beq_eq_false_iff_ne]; omega
  have q5020 : (m.id == 5020) = false := by rw [beq_eq_false_iff_ne]; omega
  have q6010 : (m.id == 6010) = false := by rw [beq_eq_false_iff_ne]; omega
  have q6020 : (m.id == 6020) = false := by rw [beq_eq_false_iff_ne]; omega
  have q6070 : (m.id == 6070) = false := by rw [beq_eq_false_iff_ne]; omega
  have q6040 : (m.id == 6040) = true := by rw [beq_iff_eq]; omega
  clear hid
  have hat0 : MeAt (w.alloc (.cells (meC m a cap) 31)) w.heap.size m a cap := heap_alloc_new w _
  obtain ⟨⟨c0, c1, c2, c3, c4, c5⟩, c6, c7, c8, c9, c10, c11⟩ := hat0.cells
  have HSUB := Lib.hid hsub
  obtain ⟨mc, hmc⟩ : ∃ c, c = meC m a cap := ⟨_, rfl⟩
  have HMC := Lib.hid hmc
  rw [← hmc] at c0 c1 c2 c3 c4 c5 c6 c7 c8 c9 c10 c11 ⊢
  clear hat0 hmc hsub
  go_enter Tryz.func20, Tryz.ntmps20
  go_wp2_with (go_at_call 38; refine (HSUB.out _ (by rw [HMC.out])).mono ?_; rintro e w2 ⟨v, rfl, hp⟩; have HP := Lib.hid hp; clear hp)
  go_ret2
  exact ⟨_, rfl, HP.out⟩

set_option maxRecDepth 100000 in
set_option maxHeartbeats 2000000 in
theorem ask_consume (g : Nat) (m : Me) (a : Option Addr) (cap : Nat) (w : World) (hid : m.id = 6020) (cd : Int) (P : Value → World → Prop)
    (hsub : ∀ w1, w1 = w.alloc (.cells (meC m a cap) 31) → Calls Tryz.prog 36 #[.pointer (some ⟨g, 0, none⟩), .agg (meC m a cap)] w1 fun e w2 => ∃ v, e = .returned (.tuple #[v, .int .i64 cd]) ∧ P v w2) :
    Calls Tryz.prog 20 #[.pointer (some ⟨g, 0, none⟩), .agg (meC m a cap)] w fun e w2 => ∃ v, e = .returned (.tuple #[v, .int .i64 cd]) ∧ P v w2 := by
  have q2010 : (m.id == 2010) = false := by rw [beq_eq_false_iff_ne]; omega
  have q4010 : (m.id == 4010) = false := by rw [beq_eq_false_iff_ne]; omega
  have q5010 : (m.id == 5010) = false := by rw [beq_eq_false_iff_ne]; omega
  have q5020 : (m.id == 5020) = false := by rw [beq_eq_false_iff_ne]; omega
  have q6010 : (m.id == 6010) = false := by rw [beq_eq_false_iff_ne]; omega
  have q6020 : (m.id == 6020) = true := by rw [beq_iff_eq]; omega
  clear hid
  have hat0 : MeAt (w.alloc (.cells (meC m a cap) 31)) w.heap.size m a cap := heap_alloc_new w _
  obtain ⟨⟨c0, c1, c2, c3, c4, c5⟩, c6, c7, c8, c9, c10, c11⟩ := hat0.cells
  have HSUB := Lib.hid hsub
  obtain ⟨mc, hmc⟩ : ∃ c, c = meC m a cap := ⟨_, rfl⟩
  have HMC := Lib.hid hmc
  rw [← hmc] at c0 c1 c2 c3 c4 c5 c6 c7 c8 c9 c10 c11 ⊢
  clear hat0 hmc hsub
  go_enter Tryz.func20, Tryz.ntmps20
  go_wp2_with (go_at_call 36; refine (HSUB.out _ (by rw [HMC.out])).mono ?_; rintro e w2 ⟨v, rfl, hp⟩; have HP := Lib.hid hp; clear hp)
  go_ret2
  exact ⟨_, rfl, HP.out⟩

set_option maxRecDepth 100000 in
set_option maxHeartbeats 2000000 in
theorem ask_bind (g : Nat) (m : Me) (a : Option Addr) (cap : Nat) (w : World) (hid : m.id = 5020) (cd : Int) (P : Value → World → Prop)
    (hsub : ∀ w1, w1 = w.alloc (.cells (meC m a cap) 31) → Calls Tryz.prog 33 #[.pointer (some ⟨g, 0, none⟩), .agg (meC m a cap)] w1 fun e w2 => ∃ v, e = .returned (.tuple #[v, .int .i64 cd]) ∧ P v w2) :
    Calls Tryz.prog 20 #[.pointer (some ⟨g, 0, none⟩), .agg (meC m a cap)] w fun e w2 => ∃ v, e = .returned (.tuple #[v, .int .i64 cd]) ∧ P v w2 := by
  have q2010 : (m.id == 2010) = false := by rw [beq_eq_false_iff_ne]; omega
  have q4010 : (m.id == 4010) = false := by rw [beq_eq_false_iff_ne]; omega
  have q5010 : (m.id == 5010) = false := by rw [beq_eq_false_iff_ne]; omega
  have q5020 : (m.id == 5020) = true := by rw [beq_iff_eq]; omega
  clear hid
  have hat0 : MeAt (w.alloc (.cells (meC m a cap) 31)) w.heap.size m a cap := heap_alloc_new w _
  obtain ⟨⟨c0, c1, c2, c3, c4, c5⟩, c6, c7, c8, c9, c10, c11⟩ := hat0.cells
  have HSUB := Lib.hid hsub
  obtain ⟨mc, hmc⟩ : ∃ c, c = meC m a cap := ⟨_, rfl⟩
  have HMC := Lib.hid hmc
  rw [← hmc] at c0 c1 c2 c3 c4 c5 c6 c7 c8 c9 c10 c11 ⊢
  clear hat0 hmc hsub
  go_enter Tryz.func20, Tryz.ntmps20
  go_wp2_with (go_at_call 33; refine (HSUB.out _ (by rw [HMC.out])).mono ?_; rintro e w2 ⟨v, rfl, hp⟩; have HP := Lib.hid hp; clear hp)
  go_ret2
  exact ⟨_, rfl, HP.out⟩

set_option maxRecDepth 100000 in
set_option maxHeartbeats 2000000 in
theorem ask_exchange (g : Nat) (m : Me) (a : Option Addr) (cap : Nat) (w : World) (hid : m.id = 4010) (cd : Int) (P : Value → World → Prop)
    (hsub : ∀ w1, w1 = w.alloc (.cells (meC m a cap) 31) → Calls Tryz.prog 31 #[.pointer (some ⟨g, 0, none⟩), .agg (meC m a cap)] w1 fun e w2 => ∃ v, e = .returned (.tuple #[v, .int .i64 cd]) ∧ P v w2) :
    Calls Tryz.prog 20 #[.pointer (some ⟨g, 0, none⟩), .agg (meC m a cap)] w fun e w2 => ∃ v, e = .returned (.tuple #[v, .int .i64 cd]) ∧ P v w2 := by
  have q2010 : (m.id == 2010) = false := by rw [beq_eq_false_iff_ne]; omega
  have q4010 : (m.id == 4010) = true := by rw [beq_iff_eq]; omega
  clear hid
  have hat0 : MeAt (w.alloc (.cells (meC m a cap) 31)) w.heap.size m a cap := heap_alloc_new w _
  obtain ⟨⟨c0, c1, c2, c3, c4, c5⟩, c6, c7, c8, c9, c10, c11⟩ := hat0.cells
  have HSUB := Lib.hid hsub
  obtain ⟨mc, hmc⟩ : ∃ c, c = meC m a cap := ⟨_, rfl⟩
  have HMC := Lib.hid hmc
  rw [← hmc] at c0 c1 c2 c3 c4 c5 c6 c7 c8 c9 c10 c11 ⊢
  clear hat0 hmc hsub
  go_enter Tryz.func20, Tryz.ntmps20
  go_wp2_with (go_at_call 31; refine (HSUB.out _ (by rw [HMC.out])).mono ?_; rintro e w2 ⟨v, rfl, hp⟩; have HP := Lib.hid hp; clear hp)
  go_ret2
  exact ⟨_, rfl, HP.out⟩

set_option maxRecDepth 100000 in
set_option maxHeartbeats 2000000 in
theorem ask_ack (g : Nat) (m : Me) (a : Option Addr) (cap : Nat) (w : World) (hid : m.id = 6080) (cd : Int) (P : Value → World → Prop)
    (hsub : ∀ w1, w1 = w.alloc (.cells (meC m a cap) 31) → Calls Tryz.prog 39 #[.pointer (some ⟨g, 0, none⟩), .int .u64 m.tag, .bool m.flag] w1 fun e w2 => ∃ v, e = .returned (.tuple #[v, .int .i64 cd]) ∧ P v w2) :
    Calls Tryz.prog 20 #[.pointer (some ⟨g, 0, none⟩), .agg (meC m a cap)] w fun e w2 => ∃ v, e = .returned (.tuple #[v, .int .i64 cd]) ∧ P v w2 := by
  have q2010 : (m.id == 2010) = false := by rw [beq_eq_false_iff_ne]; omega
  have q4010 : (m.id == 4010) = false := by rw [beq_eq_false_iff_ne]; omega
  have q5010 : (m.id == 5010) = false := by rw [beq_eq_false_iff_ne]; omega
  have q5020 : (m.id == 5020) = false := by rw [beq_eq_false_iff_ne]; omega
  have q6010 : (m.id == 6010) = false := by rw [beq_eq_false_iff_ne]; omega
  have q6020 : (m.id == 6020) = false := by rw [beq_eq_false_iff_ne]; omega
  have q6070 : (m.id == 6070) = false := by rw [beq_eq_false_iff_ne]; omega
  have q6040 : (m.id == 6040) = false := by rw [beq_eq_false_iff_ne]; omega
  have q6080 : (m.id == 6080) = true := by rw [beq_iff_eq]; omega
  clear hid
  have hat0 : MeAt (w.alloc (.cells (meC m a cap) 31)) w.heap.size m a cap := heap_alloc_new w _
  obtain ⟨⟨c0, c1, c2, c3, c4, c5⟩, c6, c7, c8, c9, c10, c11⟩ := hat0.cells
  have HSUB := Lib.hid hsub
  obtain ⟨mc, hmc⟩ : ∃ c, c = meC m a cap := ⟨_, rfl⟩
  have HMC := Lib.hid hmc
  rw [← hmc] at c0 c1 c2 c3 c4 c5 c6 c7 c8 c9 c10 c11 ⊢
  clear hat0 hmc hsub
  go_enter Tryz.func20, Tryz.ntmps20
  go_wp2_with (go_at_call 39; refine (HSUB.out _ (by rw [HMC.out])).mono ?_; rintro e w2 ⟨v, rfl, hp⟩; have HP := Lib.hid hp; clear hp)
  go_ret2
  exact ⟨_, rfl, HP.out⟩

end Go.Proofs.YtiobcgolcoocnaaGreatDoor.Ch
