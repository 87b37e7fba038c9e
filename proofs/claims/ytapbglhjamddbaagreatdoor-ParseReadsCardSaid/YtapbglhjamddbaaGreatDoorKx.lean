/- A part of the proof. -/
import Derived.Test.YtapbglhjamddbaaGreatDoorKv
import Derived.Test.YtapbglhjamddbaaGreatDoorKb
import Derived.Deep.Quiet
import Derived.Deep.QuietTactic
import Derived.BigQuiet
import Derived.StillTail
import Derived.Test.YtapbglhjamddbaaGreatDoorHd
namespace Go.Proofs.YtapbglhjamddbaaGreatDoor
open Go.RowKit
set_option maxRecDepth 100000
def firstP:List Bs→Bs→Option Bs
 | [],_=>none
 | c :: cs,l=>if Lib.hasPrefix l c=true then some c else firstP cs l
theorem prefix_one (b x:UInt8) (r:Bs):Lib.hasPrefix (b :: r) [x]=(x == b):=by simp[Lib.hasPrefix,List.isPrefixOf]
theorem prefix_two (b c x y:UInt8) (r:Bs):Lib.hasPrefix (b :: c :: r) [x,y]=decide (b=x∧c=y):=by
 have h:Lib.hasPrefix (b :: c :: r) [x,y]=(x == b && (y == c && true)):=rfl
 rw[h,Bool.eq_iff_iff,Bool.and_true,Bool.and_eq_true,beq_iff_eq,beq_iff_eq,decide_eq_true_eq]
 exact⟨fun h=>⟨h.1.symm,h.2.symm⟩,fun h=>⟨h.1.symm,h.2.symm⟩⟩
theorem prefix_short (b x y:UInt8):Lib.hasPrefix [b] [x,y]=false:=by simp[Lib.hasPrefix,List.isPrefixOf]
theorem first_singles (b:UInt8) (r:Bs):firstP [[60],[62],[61],[43],[45],[42],[47],[40],[41],[44],[46]] (b :: r)=if b∈singles then some [b] else none:=by
 simp only[firstP,prefix_one]
 exact all_bytes (P:=fun b=>(if ((60:UInt8) == b)=true then some [60] else if ((62:UInt8) == b)=true then some [62] else if ((61:UInt8) == b)=true then some [61] else if ((43:UInt8) == b)=true then some [43] else if ((45:UInt8) == b)=true then some [45] else if ((42:UInt8) == b)=true then some [42] else if ((47:UInt8) == b)=true then some [47] else if ((40:UInt8) == b)=true then some [40] else if ((41:UInt8) == b)=true then some [41] else if ((44:UInt8) == b)=true then some [44] else if ((46:UInt8) == b)=true then some [46] else none)=if b∈singles then some [b] else none) (by decide) b
theorem first_three (l:Bs):firstP signsL l=if Lib.hasPrefix l [60,61]=true then some [60,61] else if Lib.hasPrefix l [62,61]=true then some [62,61] else if Lib.hasPrefix l [60,62]=true then some [60,62] else firstP [[60],[62],[61],[43],[45],[42],[47],[40],[41],[44],[46]] l:=rfl
theorem sign_first (l:Bs):signOf l=firstP signsL l:=by
 match l with
 | []=>rfl
 | [b] =>
  rw[signOf_one,first_three,prefix_short,prefix_short,prefix_short,first_singles]
  rfl
 | b :: c :: r =>
  rw[signOf_two,first_three,prefix_two,prefix_two,prefix_two,first_singles]
  simp only[decide_eq_true_eq]
def signOne:Option Bs→One
 | none=>.err 6 0
 | some x=>.tok 6 0 x x.length
theorem oneSign_eq (l:Bs):oneSign l=signOne (signOf l):=by
 unfold oneSign
 cases signOf l <;> rfl
theorem first_at {i:Nat} {c:Bs} (h:signsL[i]?=some c) (l:Bs):firstP (signsL.drop i) l=if Lib.hasPrefix l c=true then some c else firstP (signsL.drop (i+1)) l:=by
 obtain⟨h1,rfl⟩:=List.getElem?_eq_some_iff.1 h
 rw[List.drop_eq_getElem_cons h1]
 rfl
theorem lprefix_any (s p:ByteArray) (w:World):Calls Tryz.prog 70 #[.string s,.string p] w fun e w'=>e=.returned (.bool (Lib.hasPrefix s.data.toList p.data.toList))∧w'=w:=Any.strings_HasPrefix Tryz.lays99 s p w
set_option maxHeartbeats 4000000 in
theorem lsign_any (s:ByteArray) (w:World) (hG:GV w) :
  Calls Tryz.prog 48 #[.string s] w fun e w'=>LRes (oneSign s.data.toList) e∧Below w.heap.size w w':=by
 have HG:=zH hG.sg
 have hsz:0<w.heap.size:=by have:=hG.size;omega
 have g0:=hG.sg 0 _ rfl
 have g1:=hG.sg 1 _ rfl
 have g2:=hG.sg 2 _ rfl
 have g3:=hG.sg 3 _ rfl
 have g4:=hG.sg 4 _ rfl
 have g5:=hG.sg 5 _ rfl
 have g6:=hG.sg 6 _ rfl
 have g7:=hG.sg 7 _ rfl
 have g8:=hG.sg 8 _ rfl
 have g9:=hG.sg 9 _ rfl
 have g10:=hG.sg 10 _ rfl
 have g11:=hG.sg 11 _ rfl
 have g12:=hG.sg 12 _ rfl
 have g13:=hG.sg 13 _ rfl
 obtain⟨l,hl⟩:∃ l,l=s.data.toList:=⟨_,rfl⟩
 have HL:=zH hl
 rw[← hl,oneSign_eq,sign_first]
 clear hl hG HG
 go_enter Tryz.func48,Tryz.ntmps48
 go_wp2_with fail
 have R0:=zH (TK.new w 0 0 0 ⟨#[]⟩ 55)
 obtain⟨W,hW⟩:∃ W,W=w.alloc (.cells #[.int .i64 0,.int .i64 0,.int .i64 0,.string ⟨#[]⟩] 55):=⟨_,rfl⟩
 rw[← hW] at R0
 have BW:Below w.heap.size w W:=by rw[hW];(repeat (first | exact ext_refl _ | assumption |(refine ext_alloc ?_ _) |(refine ext_drewN ?_ _) | refine ext_drew ?_ |(refine ext_set (by first |(simp;done) |(simp;omega)) _ ?_) |(refine ext_trans ?_ (by assumption))))
 have HB:=zH BW
 rw[← hW]
 clear hW BW g0 g1 g2 g3 g4 g5 g6 g7 g8 g9 g10 g11 g12 g13
 go_loopw [8] (fun va wr=>∃ i:Nat,va=.int .i64 i∧i≤14∧Hid (firstP signsL l=firstP (signsL.drop i) l)∧W=wr) (fun va _=>14 - (intOf va).toNat)
 case atStart=>exact⟨0,by go_num,by omega,rfl,rfl⟩
 case round =>
  obtain⟨i,rfl,hi,HF,rfl⟩:=hrel
  obtain⟨lt,z0,z1,z2,z3,fz⟩:=R0.out
  by_cases hlt:i<14
  ·obtain⟨c,hc⟩:∃ c,signsL[i]?=some c:=⟨_,List.getElem?_eq_getElem (by exact hlt)⟩
   have hF:=HF.out.trans (first_at hc l)
   cases hp:Lib.hasPrefix l c with
   | true =>
    rw[hp,if_pos rfl] at hF
    have HE:=zH hF
    have CP:∀ w',Calls Tryz.prog 70 #[.string s,.string (bsB c)] w' fun e w''=>e=.returned (.bool true)∧w''=w':=fun w'=>(lprefix_any s (bsB c) w').mono fun e w'' h=>⟨by rw[h.1,← HL.out,show (bsB c).data.toList=c from rfl,hp],h.2⟩
    clear hF hp HF hi
    have hk:i=0∨i=1∨i=2∨i=3∨i=4∨i=5∨i=6∨i=7∨i=8∨i=9∨i=10∨i=11∨i=12∨i=13:=by omega
    clear hlt
    rcases hk with rfl | rfl | rfl | rfl | rfl | rfl | rfl | rfl | rfl | rfl | rfl | rfl | rfl | rfl
    ·obtain rfl:=Option.some.inj hc
     clear hc
     have ix:∀ w':World,(Instr.index 120 (.agg #[.string (bsB [60,61]),.string (bsB [62,61]),.string (bsB [60,62]),.string (bsB [60]),.string (bsB [62]),.string (bsB [61]),.string (bsB [43]),.string (bsB [45]),.string (bsB [42]),.string (bsB [47]),.string (bsB [40]),.string (bsB [41]),.string (bsB [44]),.string (bsB [46])]) (.int .i64 0)).run Tryz.prog w'=.ok (.string (bsB [60,61])) w':=fun _=>by kernel_rfl
     go_wp2_with (go_at_call 70;refine (CP _).mono ?_;rintro e w2 ⟨rfl,rfl⟩)
     refine bodyPost_ret (v:=.tuple #[.agg #[.int .i64 6,.int .i64 0,.int .i64 0,.string (bsB [60,61])],.int .i64 2,.int .i64 0]) (by simp[results,Tryz.results48,go_sem,z0,z1,z2,z3]) rfl ⟨by rw[HE.out];exact LRes.tok_of rfl,?_⟩
     have hbF:=HB.out
     (repeat (first | exact ext_refl _ | assumption |(refine ext_alloc ?_ _) |(refine ext_drewN ?_ _) | refine ext_drew ?_ |(refine ext_set (by first |(simp;done) |(simp;omega)) _ ?_) |(refine ext_trans ?_ (by assumption))))
    ·obtain rfl:=Option.some.inj hc
     clear hc
     have ix:∀ w':World,(Instr.index 120 (.agg #[.string (bsB [60,61]),.string (bsB [62,61]),.string (bsB [60,62]),.string (bsB [60]),.string (bsB [62]),.string (bsB [61]),.string (bsB [43]),.string (bsB [45]),.string (bsB [42]),.string (bsB [47]),.string (bsB [40]),.string (bsB [41]),.string (bsB [44]),.string (bsB [46])]) (.int .i64 1)).run Tryz.prog w'=.ok (.string (bsB [62,61])) w':=fun _=>by kernel_rfl
     go_wp2_with (go_at_call 70;refine (CP _).mono ?_;rintro e w2 ⟨rfl,rfl⟩)
     refine bodyPost_ret (v:=.tuple #[.agg #[.int .i64 6,.int .i64 0,.int .i64 0,.string (bsB [62,61])],.int .i64 2,.int .i64 0]) (by simp[results,Tryz.results48,go_sem,z0,z1,z2,z3]) rfl ⟨by rw[HE.out];exact LRes.tok_of rfl,?_⟩
     have hbF:=HB.out
     (repeat (first | exact ext_refl _ | assumption |(refine ext_alloc ?_ _) |(refine ext_drewN ?_ _) | refine ext_drew ?_ |(refine ext_set (by first |(simp;done) |(simp;omega)) _ ?_) |(refine ext_trans ?_ (by assumption))))
    ·obtain rfl:=Option.some.inj hc
     clear hc
     have ix:∀ w':World,(Instr.index 120 (.agg #[.string (bsB [60,61]),.string (bsB [62,61]),.string (bsB [60,62]),.string (bsB [60]),.string (bsB [62]),.string (bsB [61]),.string (bsB [43]),.string (bsB [45]),.string (bsB [42]),.string (bsB [47]),.string (bsB [40]),.string (bsB [41]),.string (bsB [44]),.string (bsB [46])]) (.int .i64 2)).run Tryz.prog w'=.ok (.string (bsB [60,62])) w':=fun _=>by kernel_rfl
     go_wp2_with (go_at_call 70;refine (CP _).mono ?_;rintro e w2 ⟨rfl,rfl⟩)
     refine bodyPost_ret (v:=.tuple #[.agg #[.int .i64 6,.int .i64 0,.int .i64 0,.string (bsB [60,62])],.int .i64 2,.int .i64 0]) (by simp[results,Tryz.results48,go_sem,z0,z1,z2,z3]) rfl ⟨by rw[HE.out];exact LRes.tok_of rfl,?_⟩
     have hbF:=HB.out
     (repeat (first | exact ext_refl _ | assumption |(refine ext_alloc ?_ _) |(refine ext_drewN ?_ _) | refine ext_drew ?_ |(refine ext_set (by first |(simp;done) |(simp;omega)) _ ?_) |(refine ext_trans ?_ (by assumption))))
    ·obtain rfl:=Option.some.inj hc
     clear hc
     have ix:∀ w':World,(Instr.index 120 (.agg #[.string (bsB [60,61]),.string (bsB [62,61]),.string (bsB [60,62]),.string (bsB [60]),.string (bsB [62]),.string (bsB [61]),.string (bsB [43]),.string (bsB [45]),.string (bsB [42]),.string (bsB [47]),.string (bsB [40]),.string (bsB [41]),.string (bsB [44]),.string (bsB [46])]) (.int .i64 3)).run Tryz.prog w'=.ok (.string (bsB [60])) w':=fun _=>by kernel_rfl
     go_wp2_with (go_at_call 70;refine (CP _).mono ?_;rintro e w2 ⟨rfl,rfl⟩)
     refine bodyPost_ret (v:=.tuple #[.agg #[.int .i64 6,.int .i64 0,.int .i64 0,.string (bsB [60])],.int .i64 1,.int .i64 0]) (by simp[results,Tryz.results48,go_sem,z0,z1,z2,z3]) rfl ⟨by rw[HE.out];exact LRes.tok_of rfl,?_⟩
     have hbF:=HB.out
     (repeat (first | exact ext_refl _ | assumption |(refine ext_alloc ?_ _) |(refine ext_drewN ?_ _) | refine ext_drew ?_ |(refine ext_set (by first |(simp;done) |(simp;omega)) _ ?_) |(refine ext_trans ?_ (by assumption))))
    ·obtain rfl:=Option.some.inj hc
     clear hc
     have ix:∀ w':World,(Instr.index 120 (.agg #[.string (bsB [60,61]),.string (bsB [62,61]),.string (bsB [60,62]),.string (bsB [60]),.string (bsB [62]),.string (bsB [61]),.string (bsB [43]),.string (bsB [45]),.string (bsB [42]),.string (bsB [47]),.string (bsB [40]),.string (bsB [41]),.string (bsB [44]),.string (bsB [46])]) (.int .i64 4)).run Tryz.prog w'=.ok (.string (bsB [62])) w':=fun _=>by kernel_rfl
     go_wp2_with (go_at_call 70;refine (CP _).mono ?_;rintro e w2 ⟨rfl,rfl⟩)
     refine bodyPost_ret (v:=.tuple #[.agg #[.int .i64 6,.int .i64 0,.int .i64 0,.string (bsB [62])],.int .i64 1,.int .i64 0]) (by simp[results,Tryz.results48,go_sem,z0,z1,z2,z3]) rfl ⟨by rw[HE.out];exact LRes.tok_of rfl,?_⟩
     have hbF:=HB.out
     (repeat (first | exact ext_refl _ | assumption |(refine ext_alloc ?_ _) |(refine ext_drewN ?_ _) | refine ext_drew ?_ |(refine ext_set (by first |(simp;done) |(simp;omega)) _ ?_) |(refine ext_trans ?_ (by assumption))))
    ·obtain rfl:=Option.some.inj hc
     clear hc
     have ix:∀ w':World,(Instr.index 120 (.agg #[.string (bsB [60,61]),.string (bsB [62,61]),.string (bsB [60,62]),.string (bsB [60]),.string (bsB [62]),.string (bsB [61]),.string (bsB [43]),.string (bsB [45]),.string (bsB [42]),.string (bsB [47]),.string (bsB [40]),.string (bsB [41]),.string (bsB [44]),.string (bsB [46])]) (.int .i64 5)).run Tryz.prog w'=.ok (.string (bsB [61])) w':=fun _=>by kernel_rfl
     go_wp2_with (go_at_call 70;refine (CP _).mono ?_;rintro e w2 ⟨rfl,rfl⟩)
     refine bodyPost_ret (v:=.tuple #[.agg #[.int .i64 6,.int .i64 0,.int .i64 0,.string (bsB [61])],.int .i64 1,.int .i64 0]) (by simp[results,Tryz.results48,go_sem,z0,z1,z2,z3]) rfl ⟨by rw[HE.out];exact LRes.tok_of rfl,?_⟩
     have hbF:=HB.out
     (repeat (first | exact ext_refl _ | assumption |(refine ext_alloc ?_ _) |(refine ext_drewN ?_ _) | refine ext_drew ?_ |(refine ext_set (by first |(simp;done) |(simp;omega)) _ ?_) |(refine ext_trans ?_ (by assumption))))
    ·obtain rfl:=Option.some.inj hc
     clear hc
     have ix:∀ w':World,(Instr.index 120 (.agg #[.string (bsB [60,61]),.string (bsB [62,61]),.string (bsB [60,62]),.string (bsB [60]),.string (bsB [62]),.string (bsB [61]),.string (bsB [43]),.string (bsB [45]),.string (bsB [42]),.string (bsB [47]),.string (bsB [40]),.string (bsB [41]),.string (bsB [44]),.string (bsB [46])]) (.int .i64 6)).run Tryz.prog w'=.ok (.string (bsB [43])) w':=fun _=>by kernel_rfl
     go_wp2_with (go_at_call 70;refine (CP _).mono ?_;rintro e w2 ⟨rfl,rfl⟩)
     refine bodyPost_ret (v:=.tuple #[.agg #[.int .i64 6,.int .i64 0,.int .i64 0,.string (bsB [43])],.int .i64 1,.int .i64 0]) (by simp[results,Tryz.results48,go_sem,z0,z1,z2,z3]) rfl ⟨by rw[HE.out];exact LRes.tok_of rfl,?_⟩
     have hbF:=HB.out
     (repeat (first | exact ext_refl _ | assumption |(refine ext_alloc ?_ _) |(refine ext_drewN ?_ _) | refine ext_drew ?_ |(refine ext_set (by first |(simp;done) |(simp;omega)) _ ?_) |(refine ext_trans ?_ (by assumption))))
    ·obtain rfl:=Option.some.inj hc
     clear hc
     have ix:∀ w':World,(Instr.index 120 (.agg #[.string (bsB [60,61]),.string (bsB [62,61]),.string (bsB [60,62]),.string (bsB [60]),.string (bsB [62]),.string (bsB [61]),.string (bsB [43]),.string (bsB [45]),.string (bsB [42]),.string (bsB [47]),.string (bsB [40]),.string (bsB [41]),.string (bsB [44]),.string (bsB [46])]) (.int .i64 7)).run Tryz.prog w'=.ok (.string (bsB [45])) w':=fun _=>by kernel_rfl
     go_wp2_with (go_at_call 70;refine (CP _).mono ?_;rintro e w2 ⟨rfl,rfl⟩)
     refine bodyPost_ret (v:=.tuple #[.agg #[.int .i64 6,.int .i64 0,.int .i64 0,.string (bsB [45])],.int .i64 1,.int .i64 0]) (by simp[results,Tryz.results48,go_sem,z0,z1,z2,z3]) rfl ⟨by rw[HE.out];exact LRes.tok_of rfl,?_⟩
     have hbF:=HB.out
     (repeat (first | exact ext_refl _ | assumption |(refine ext_alloc ?_ _) |(refine ext_drewN ?_ _) | refine ext_drew ?_ |(refine ext_set (by first |(simp;done) |(simp;omega)) _ ?_) |(refine ext_trans ?_ (by assumption))))
    ·obtain rfl:=Option.some.inj hc
     clear hc
     have ix:∀ w':World,(Instr.index 120 (.agg #[.string (bsB [60,61]),.string (bsB [62,61]),.string (bsB [60,62]),.string (bsB [60]),.string (bsB [62]),.string (bsB [61]),.string (bsB [43]),.string (bsB [45]),.string (bsB [42]),.string (bsB [47]),.string (bsB [40]),.string (bsB [41]),.string (bsB [44]),.string (bsB [46])]) (.int .i64 8)).run Tryz.prog w'=.ok (.string (bsB [42])) w':=fun _=>by kernel_rfl
     go_wp2_with (go_at_call 70;refine (CP _).mono ?_;rintro e w2 ⟨rfl,rfl⟩)
     refine bodyPost_ret (v:=.tuple #[.agg #[.int .i64 6,.int .i64 0,.int .i64 0,.string (bsB [42])],.int .i64 1,.int .i64 0]) (by simp[results,Tryz.results48,go_sem,z0,z1,z2,z3]) rfl ⟨by rw[HE.out];exact LRes.tok_of rfl,?_⟩
     have hbF:=HB.out
     (repeat (first | exact ext_refl _ | assumption |(refine ext_alloc ?_ _) |(refine ext_drewN ?_ _) | refine ext_drew ?_ |(refine ext_set (by first |(simp;done) |(simp;omega)) _ ?_) |(refine ext_trans ?_ (by assumption))))
    ·obtain rfl:=Option.some.inj hc
     clear hc
     have ix:∀ w':World,(Instr.index 120 (.agg #[.string (bsB [60,61]),.string (bsB [62,61]),.string (bsB [60,62]),.string (bsB [60]),.string (bsB [62]),.string (bsB [61]),.string (bsB [43]),.string (bsB [45]),.string (bsB [42]),.string (bsB [47]),.string (bsB [40]),.string (bsB [41]),.string (bsB [44]),.string (bsB [46])]) (.int .i64 9)).run Tryz.prog w'=.ok (.string (bsB [47])) w':=fun _=>by kernel_rfl
     go_wp2_with (go_at_call 70;refine (CP _).mono ?_;rintro e w2 ⟨rfl,rfl⟩)
     refine bodyPost_ret (v:=.tuple #[.agg #[.int .i64 6,.int .i64 0,.int .i64 0,.string (bsB [47])],.int .i64 1,.int .i64 0]) (by simp[results,Tryz.results48,go_sem,z0,z1,z2,z3]) rfl ⟨by rw[HE.out];exact LRes.tok_of rfl,?_⟩
     have hbF:=HB.out
     (repeat (first | exact ext_refl _ | assumption |(refine ext_alloc ?_ _) |(refine ext_drewN ?_ _) | refine ext_drew ?_ |(refine ext_set (by first |(simp;done) |(simp;omega)) _ ?_) |(refine ext_trans ?_ (by assumption))))
    ·obtain rfl:=Option.some.inj hc
     clear hc
     have ix:∀ w':World,(Instr.index 120 (.agg #[.string (bsB [60,61]),.string (bsB [62,61]),.string (bsB [60,62]),.string (bsB [60]),.string (bsB [62]),.string (bsB [61]),.string (bsB [43]),.string (bsB [45]),.string (bsB [42]),.string (bsB [47]),.string (bsB [40]),.string (bsB [41]),.string (bsB [44]),.string (bsB [46])]) (.int .i64 10)).run Tryz.prog w'=.ok (.string (bsB [40])) w':=fun _=>by kernel_rfl
     go_wp2_with (go_at_call 70;refine (CP _).mono ?_;rintro e w2 ⟨rfl,rfl⟩)
     refine bodyPost_ret (v:=.tuple #[.agg #[.int .i64 6,.int .i64 0,.int .i64 0,.string (bsB [40])],.int .i64 1,.int .i64 0]) (by simp[results,Tryz.results48,go_sem,z0,z1,z2,z3]) rfl ⟨by rw[HE.out];exact LRes.tok_of rfl,?_⟩
     have hbF:=HB.out
     (repeat (first | exact ext_refl _ | assumption |(refine ext_alloc ?_ _) |(refine ext_drewN ?_ _) | refine ext_drew ?_ |(refine ext_set (by first |(simp;done) |(simp;omega)) _ ?_) |(refine ext_trans ?_ (by assumption))))
    ·obtain rfl:=Option.some.inj hc
     clear hc
     have ix:∀ w':World,(Instr.index 120 (.agg #[.string (bsB [60,61]),.string (bsB [62,61]),.string (bsB [60,62]),.string (bsB [60]),.string (bsB [62]),.string (bsB [61]),.string (bsB [43]),.string (bsB [45]),.string (bsB [42]),.string (bsB [47]),.string (bsB [40]),.string (bsB [41]),.string (bsB [44]),.string (bsB [46])]) (.int .i64 11)).run Tryz.prog w'=.ok (.string (bsB [41])) w':=fun _=>by kernel_rfl
     go_wp2_with (go_at_call 70;refine (CP _).mono ?_;rintro e w2 ⟨rfl,rfl⟩)
     refine bodyPost_ret (v:=.tuple #[.agg #[.int .i64 6,.int .i64 0,.int .i64 0,.string (bsB [41])],.int .i64 1,.int .i64 0]) (by simp[results,Tryz.results48,go_sem,z0,z1,z2,z3]) rfl ⟨by rw[HE.out];exact LRes.tok_of rfl,?_⟩
     have hbF:=HB.out
     (repeat (first | exact ext_refl _ | assumption |(refine ext_alloc ?_ _) |(refine ext_drewN ?_ _) | refine ext_drew ?_ |(refine ext_set (by first |(simp;done) |(simp;omega)) _ ?_) |(refine ext_trans ?_ (by assumption))))
    ·obtain rfl:=Option.some.inj hc
     clear hc
     have ix:∀ w':World,(Instr.index 120 (.agg #[.string (bsB [60,61]),.string (bsB [62,61]),.string (bsB [60,62]),.string (bsB [60]),.string (bsB [62]),.string (bsB [61]),.string (bsB [43]),.string (bsB [45]),.string (bsB [42]),.string (bsB [47]),.string (bsB [40]),.string (bsB [41]),.string (bsB [44]),.string (bsB [46])]) (.int .i64 12)).run Tryz.prog w'=.ok (.string (bsB [44])) w':=fun _=>by kernel_rfl
     go_wp2_with (go_at_call 70;refine (CP _).mono ?_;rintro e w2 ⟨rfl,rfl⟩)
     refine bodyPost_ret (v:=.tuple #[.agg #[.int .i64 6,.int .i64 0,.int .i64 0,.string (bsB [44])],.int .i64 1,.int .i64 0]) (by simp[results,Tryz.results48,go_sem,z0,z1,z2,z3]) rfl ⟨by rw[HE.out];exact LRes.tok_of rfl,?_⟩
     have hbF:=HB.out
     (repeat (first | exact ext_refl _ | assumption |(refine ext_alloc ?_ _) |(refine ext_drewN ?_ _) | refine ext_drew ?_ |(refine ext_set (by first |(simp;done) |(simp;omega)) _ ?_) |(refine ext_trans ?_ (by assumption))))
    ·obtain rfl:=Option.some.inj hc
     clear hc
     have ix:∀ w':World,(Instr.index 120 (.agg #[.string (bsB [60,61]),.string (bsB [62,61]),.string (bsB [60,62]),.string (bsB [60]),.string (bsB [62]),.string (bsB [61]),.string (bsB [43]),.string (bsB [45]),.string (bsB [42]),.string (bsB [47]),.string (bsB [40]),.string (bsB [41]),.string (bsB [44]),.string (bsB [46])]) (.int .i64 13)).run Tryz.prog w'=.ok (.string (bsB [46])) w':=fun _=>by kernel_rfl
     go_wp2_with (go_at_call 70;refine (CP _).mono ?_;rintro e w2 ⟨rfl,rfl⟩)
     refine bodyPost_ret (v:=.tuple #[.agg #[.int .i64 6,.int .i64 0,.int .i64 0,.string (bsB [46])],.int .i64 1,.int .i64 0]) (by simp[results,Tryz.results48,go_sem,z0,z1,z2,z3]) rfl ⟨by rw[HE.out];exact LRes.tok_of rfl,?_⟩
     have hbF:=HB.out
     (repeat (first | exact ext_refl _ | assumption |(refine ext_alloc ?_ _) |(refine ext_drewN ?_ _) | refine ext_drew ?_ |(refine ext_set (by first |(simp;done) |(simp;omega)) _ ?_) |(refine ext_trans ?_ (by assumption))))
   | false =>
    rw[hp,if_neg (by simp)] at hF
    have HE:=zH hF
    have CP:∀ w',Calls Tryz.prog 70 #[.string s,.string (bsB c)] w' fun e w''=>e=.returned (.bool false)∧w''=w':=fun w'=>(lprefix_any s (bsB c) w').mono fun e w'' h=>⟨by rw[h.1,← HL.out,show (bsB c).data.toList=c from rfl,hp],h.2⟩
    clear hF hp HF hi
    have hk:i=0∨i=1∨i=2∨i=3∨i=4∨i=5∨i=6∨i=7∨i=8∨i=9∨i=10∨i=11∨i=12∨i=13:=by omega
    clear hlt
    rcases hk with rfl | rfl | rfl | rfl | rfl | rfl | rfl | rfl | rfl | rfl | rfl | rfl | rfl | rfl
    ·obtain rfl:=Option.some.inj hc
     clear hc
     have ix:∀ w':World,(Instr.index 120 (.agg #[.string (bsB [60,61]),.string (bsB [62,61]),.string (bsB [60,62]),.string (bsB [60]),.string (bsB [62]),.string (bsB [61]),.string (bsB [43]),.string (bsB [45]),.string (bsB [42]),.string (bsB [47]),.string (bsB [40]),.string (bsB [41]),.string (bsB [44]),.string (bsB [46])]) (.int .i64 0)).run Tryz.prog w'=.ok (.string (bsB [60,61])) w':=fun _=>by kernel_rfl
     go_wp2_with (go_at_call 70;refine (CP _).mono ?_;rintro e w2 ⟨rfl,rfl⟩)
     go_roundw
     case rel=>exact⟨1,by go_num,by omega,HE.out,trivial⟩
     case measure=>simp[intOf]
    ·obtain rfl:=Option.some.inj hc
     clear hc
     have ix:∀ w':World,(Instr.index 120 (.agg #[.string (bsB [60,61]),.string (bsB [62,61]),.string (bsB [60,62]),.string (bsB [60]),.string (bsB [62]),.string (bsB [61]),.string (bsB [43]),.string (bsB [45]),.string (bsB [42]),.string (bsB [47]),.string (bsB [40]),.string (bsB [41]),.string (bsB [44]),.string (bsB [46])]) (.int .i64 1)).run Tryz.prog w'=.ok (.string (bsB [62,61])) w':=fun _=>by kernel_rfl
     go_wp2_with (go_at_call 70;refine (CP _).mono ?_;rintro e w2 ⟨rfl,rfl⟩)
     go_roundw
     case rel=>exact⟨2,by go_num,by omega,HE.out,trivial⟩
     case measure=>simp[intOf]
    ·obtain rfl:=Option.some.inj hc
     clear hc
     have ix:∀ w':World,(Instr.index 120 (.agg #[.string (bsB [60,61]),.string (bsB [62,61]),.string (bsB [60,62]),.string (bsB [60]),.string (bsB [62]),.string (bsB [61]),.string (bsB [43]),.string (bsB [45]),.string (bsB [42]),.string (bsB [47]),.string (bsB [40]),.string (bsB [41]),.string (bsB [44]),.string (bsB [46])]) (.int .i64 2)).run Tryz.prog w'=.ok (.string (bsB [60,62])) w':=fun _=>by kernel_rfl
     go_wp2_with (go_at_call 70;refine (CP _).mono ?_;rintro e w2 ⟨rfl,rfl⟩)
     go_roundw
     case rel=>exact⟨3,by go_num,by omega,HE.out,trivial⟩
     case measure=>simp[intOf]
    ·obtain rfl:=Option.some.inj hc
     clear hc
     have ix:∀ w':World,(Instr.index 120 (.agg #[.string (bsB [60,61]),.string (bsB [62,61]),.string (bsB [60,62]),.string (bsB [60]),.string (bsB [62]),.string (bsB [61]),.string (bsB [43]),.string (bsB [45]),.string (bsB [42]),.string (bsB [47]),.string (bsB [40]),.string (bsB [41]),.string (bsB [44]),.string (bsB [46])]) (.int .i64 3)).run Tryz.prog w'=.ok (.string (bsB [60])) w':=fun _=>by kernel_rfl
     go_wp2_with (go_at_call 70;refine (CP _).mono ?_;rintro e w2 ⟨rfl,rfl⟩)
     go_roundw
     case rel=>exact⟨4,by go_num,by omega,HE.out,trivial⟩
     case measure=>simp[intOf]
    ·obtain rfl:=Option.some.inj hc
     clear hc
     have ix:∀ w':World,(Instr.index 120 (.agg #[.string (bsB [60,61]),.string (bsB [62,61]),.string (bsB [60,62]),.string (bsB [60]),.string (bsB [62]),.string (bsB [61]),.string (bsB [43]),.string (bsB [45]),.string (bsB [42]),.string (bsB [47]),.string (bsB [40]),.string (bsB [41]),.string (bsB [44]),.string (bsB [46])]) (.int .i64 4)).run Tryz.prog w'=.ok (.string (bsB [62])) w':=fun _=>by kernel_rfl
     go_wp2_with (go_at_call 70;refine (CP _).mono ?_;rintro e w2 ⟨rfl,rfl⟩)
     go_roundw
     case rel=>exact⟨5,by go_num,by omega,HE.out,trivial⟩
     case measure=>simp[intOf]
    ·obtain rfl:=Option.some.inj hc
     clear hc
     have ix:∀ w':World,(Instr.index 120 (.agg #[.string (bsB [60,61]),.string (bsB [62,61]),.string (bsB [60,62]),.string (bsB [60]),.string (bsB [62]),.string (bsB [61]),.string (bsB [43]),.string (bsB [45]),.string (bsB [42]),.string (bsB [47]),.string (bsB [40]),.string (bsB [41]),.string (bsB [44]),.string (bsB [46])]) (.int .i64 5)).run Tryz.prog w'=.ok (.string (bsB [61])) w':=fun _=>by kernel_rfl
     go_wp2_with (go_at_call 70;refine (CP _).mono ?_;rintro e w2 ⟨rfl,rfl⟩)
     go_roundw
     case rel=>exact⟨6,by go_num,by omega,HE.out,trivial⟩
     case measure=>simp[intOf]
    ·obtain rfl:=Option.some.inj hc
     clear hc
     have ix:∀ w':World,(Instr.index 120 (.agg #[.string (bsB [60,61]),.string (bsB [62,61]),.string (bsB [60,62]),.string (bsB [60]),.string (bsB [62]),.string (bsB [61]),.string (bsB [43]),.string (bsB [45]),.string (bsB [42]),.string (bsB [47]),.string (bsB [40]),.string (bsB [41]),.string (bsB [44]),.string (bsB [46])]) (.int .i64 6)).run Tryz.prog w'=.ok (.string (bsB [43])) w':=fun _=>by kernel_rfl
     go_wp2_with (go_at_call 70;refine (CP _).mono ?_;rintro e w2 ⟨rfl,rfl⟩)
     go_roundw
     case rel=>exact⟨7,by go_num,by omega,HE.out,trivial⟩
     case measure=>simp[intOf]
    ·obtain rfl:=Option.some.inj hc
     clear hc
     have ix:∀ w':World,(Instr.index 120 (.agg #[.string (bsB [60,61]),.string (bsB [62,61]),.string (bsB [60,62]),.string (bsB [60]),.string (bsB [62]),.string (bsB [61]),.string (bsB [43]),.string (bsB [45]),.string (bsB [42]),.string (bsB [47]),.string (bsB [40]),.string (bsB [41]),.string (bsB [44]),.string (bsB [46])]) (.int .i64 7)).run Tryz.prog w'=.ok (.string (bsB [45])) w':=fun _=>by kernel_rfl
     go_wp2_with (go_at_call 70;refine (CP _).mono ?_;rintro e w2 ⟨rfl,rfl⟩)
     go_roundw
     case rel=>exact⟨8,by go_num,by omega,HE.out,trivial⟩
     case measure=>simp[intOf]
    ·obtain rfl:=Option.some.inj hc
     clear hc
     have ix:∀ w':World,(Instr.index 120 (.agg #[.string (bsB [60,61]),.string (bsB [62,61]),.string (bsB [60,62]),.string (bsB [60]),.string (bsB [62]),.string (bsB [61]),.string (bsB [43]),.string (bsB [45]),.string (bsB [42]),.string (bsB [47]),.string (bsB [40]),.string (bsB [41]),.string (bsB [44]),.string (bsB [46])]) (.int .i64 8)).run Tryz.prog w'=.ok (.string (bsB [42])) w':=fun _=>by kernel_rfl
     go_wp2_with (go_at_call 70;refine (CP _).mono ?_;rintro e w2 ⟨rfl,rfl⟩)
     go_roundw
     case rel=>exact⟨9,by go_num,by omega,HE.out,trivial⟩
     case measure=>simp[intOf]
    ·obtain rfl:=Option.some.inj hc
     clear hc
     have ix:∀ w':World,(Instr.index 120 (.agg #[.string (bsB [60,61]),.string (bsB [62,61]),.string (bsB [60,62]),.string (bsB [60]),.string (bsB [62]),.string (bsB [61]),.string (bsB [43]),.string (bsB [45]),.string (bsB [42]),.string (bsB [47]),.string (bsB [40]),.string (bsB [41]),.string (bsB [44]),.string (bsB [46])]) (.int .i64 9)).run Tryz.prog w'=.ok (.string (bsB [47])) w':=fun _=>by kernel_rfl
     go_wp2_with (go_at_call 70;refine (CP _).mono ?_;rintro e w2 ⟨rfl,rfl⟩)
     go_roundw
     case rel=>exact⟨10,by go_num,by omega,HE.out,trivial⟩
     case measure=>simp[intOf]
    ·obtain rfl:=Option.some.inj hc
     clear hc
     have ix:∀ w':World,(Instr.index 120 (.agg #[.string (bsB [60,61]),.string (bsB [62,61]),.string (bsB [60,62]),.string (bsB [60]),.string (bsB [62]),.string (bsB [61]),.string (bsB [43]),.string (bsB [45]),.string (bsB [42]),.string (bsB [47]),.string (bsB [40]),.string (bsB [41]),.string (bsB [44]),.string (bsB [46])]) (.int .i64 10)).run Tryz.prog w'=.ok (.string (bsB [40])) w':=fun _=>by kernel_rfl
     go_wp2_with (go_at_call 70;refine (CP _).mono ?_;rintro e w2 ⟨rfl,rfl⟩)
     go_roundw
     case rel=>exact⟨11,by go_num,by omega,HE.out,trivial⟩
     case measure=>simp[intOf]
    ·obtain rfl:=Option.some.inj hc
     clear hc
     have ix:∀ w':World,(Instr.index 120 (.agg #[.string (bsB [60,61]),.string (bsB [62,61]),.string (bsB [60,62]),.string (bsB [60]),.string (bsB [62]),.string (bsB [61]),.string (bsB [43]),.string (bsB [45]),.string (bsB [42]),.string (bsB [47]),.string (bsB [40]),.string (bsB [41]),.string (bsB [44]),.string (bsB [46])]) (.int .i64 11)).run Tryz.prog w'=.ok (.string (bsB [41])) w':=fun _=>by kernel_rfl
     go_wp2_with (go_at_call 70;refine (CP _).mono ?_;rintro e w2 ⟨rfl,rfl⟩)
     go_roundw
     case rel=>exact⟨12,by go_num,by omega,HE.out,trivial⟩
     case measure=>simp[intOf]
    ·obtain rfl:=Option.some.inj hc
     clear hc
     have ix:∀ w':World,(Instr.index 120 (.agg #[.string (bsB [60,61]),.string (bsB [62,61]),.string (bsB [60,62]),.string (bsB [60]),.string (bsB [62]),.string (bsB [61]),.string (bsB [43]),.string (bsB [45]),.string (bsB [42]),.string (bsB [47]),.string (bsB [40]),.string (bsB [41]),.string (bsB [44]),.string (bsB [46])]) (.int .i64 12)).run Tryz.prog w'=.ok (.string (bsB [44])) w':=fun _=>by kernel_rfl
     go_wp2_with (go_at_call 70;refine (CP _).mono ?_;rintro e w2 ⟨rfl,rfl⟩)
     go_roundw
     case rel=>exact⟨13,by go_num,by omega,HE.out,trivial⟩
     case measure=>simp[intOf]
    ·obtain rfl:=Option.some.inj hc
     clear hc
     have ix:∀ w':World,(Instr.index 120 (.agg #[.string (bsB [60,61]),.string (bsB [62,61]),.string (bsB [60,62]),.string (bsB [60]),.string (bsB [62]),.string (bsB [61]),.string (bsB [43]),.string (bsB [45]),.string (bsB [42]),.string (bsB [47]),.string (bsB [40]),.string (bsB [41]),.string (bsB [44]),.string (bsB [46])]) (.int .i64 13)).run Tryz.prog w'=.ok (.string (bsB [46])) w':=fun _=>by kernel_rfl
     go_wp2_with (go_at_call 70;refine (CP _).mono ?_;rintro e w2 ⟨rfl,rfl⟩)
     go_roundw
     case rel=>exact⟨14,by go_num,by omega,HE.out,trivial⟩
     case measure=>simp[intOf]
  ·obtain rfl:i=14:=by omega
   have HE:=HF.out
   clear hlt hi HF
   have HE2:=zH HE
   clear HE
   go_wp2_with fail
   refine bodyPost_ret (v:=.tuple #[.agg #[.int .i64 0,.int .i64 0,.int .i64 0,.string ⟨#[]⟩],.int .i64 0,.int .i64 6]) (by simp[results,Tryz.results48,go_sem,z0,z1,z2,z3]) rfl ⟨by rw[HE2.out];rfl,?_⟩
   have hbF:=HB.out
   (repeat (first | exact ext_refl _ | assumption |(refine ext_alloc ?_ _) |(refine ext_drewN ?_ _) | refine ext_drew ?_ |(refine ext_set (by first |(simp;done) |(simp;omega)) _ ?_) |(refine ext_trans ?_ (by assumption))))
open Go.RowKit
structure After (G:World) where
 W:World
 below:Below G.heap.size G W
theorem After.some (G:World):Nonempty (After G):=⟨⟨G,Below.refl _ _⟩⟩
theorem After.cell {G:World} (x:After G) (b o:Nat) (h:b<G.heap.size):x.W.cell? ⟨b,o,none⟩=G.cell? ⟨b,o,none⟩:=x.below.cell (p:=⟨b,o,none⟩) h
theorem calls_after {P:Program} {f:FuncId} {args:Array Value} {G:World} {x:After G} {v:Value} (h:Calls P f args x.W fun e w'=>e=.returned v∧Below x.W.heap.size x.W w') :
  Calls P f args x.W fun e w''=>e=.returned v∧∃ y:After G,w''=y.W :=
 h.mono fun _ w' ⟨he,hb⟩=>⟨he,⟨w',x.below.trans (hb.mono x.below.size)⟩,rfl⟩
open Go.RowKit
section
variable {P:Program} {ops:Array Oper} {md:Region.Mode} {C:World→Prop}
def anyHead (P:Program) (md:Region.Mode) (ops:Array Oper) (C:World→Prop) (n:Nat) (L:Array Bool→Act→Prop):Nat→Array Bool→Act→Prop
 | 0,listed,a=>L listed a
 | f+1,listed,a=>Region.ready md ops listed≠[]∧∀ i∈Region.ready md ops listed,i<n∧qOp P ops C i (anyHead P md ops C n L f (listed.setIfInBounds i true)) a
theorem anyHead_goes {n g:Nat} {L:Array Bool→Act→Prop} {Q':Exit→Act→World→Prop} (hL:∀ listed a w,C w→L listed a→wpAny P md ops Q' g listed a w) :
  ∀ (f:Nat) (listed:Array Bool) (a:Act) (w:World),C w→anyHead P md ops C n L f listed a→wpAny P md ops Q' (f+g) listed a w
 | 0,listed,a,w,hw,h=>by rw[Nat.zero_add];exact hL _ _ _ hw h
 | f+1,listed,a,w,hw,h=>by
  rw[show f+1+g=(f+g)+1 by omega]
  exact⟨fun h0=>absurd h0 h.1,fun i hi=>wpOp_of_qOp hw (fun a' w' hw' h'=>anyHead_goes hL f _ a' w' hw' h') (h.2 i hi).2⟩
theorem anyHead_first {n i:Nat} {oi:Oper} {v:Value} {L:Array Bool→Act→Prop} (hi:ops[i]?=some oi) (hsel:∀ (j:Nat) (o:Oper) cs b,ops[j]?=some o→o.op≠.select cs b)
  (hs:Region.sinkB md ops n=true) (hc:Region.chainB md ops n=true) (hn:n<ops.size) (hin:i<n) (hdone:∀ listed a,L listed a→∀ j∈Region.ready md ops listed,n≤j) :
  ∀ (f:Nat) (listed:Array Bool) (a:Act),HeadInv md ops n listed →
   (∀ j oj,ops[j]?=some oj→j≠i→listed.getD j true=false→(∀ e∈oj.after,Region.binds md e=true→e.on≠i)→oi.apart ops oj=true) →
   i∈Region.ready md ops listed→YieldsIn P ops C oi v a →
   anyHead P md ops C n L f (listed.setIfInBounds i true) (a.put oi.dst v)→anyHead P md ops C n L (f+1) listed a:=by
 intro f
 induction f with
 | zero =>
  intro listed a inv _ hr hy H
  refine⟨fun h=>(by rw[h] at hr;cases hr),fun j hj=>?_⟩
  have hjn:j<n:=Nat.lt_of_not_le fun h=>absurd hj (tail_waits hs hc hn inv _ i rfl hin (mem_ready.1 hr).1 j h)
  refine⟨hjn,?_⟩
  by_cases hji:j=i
  ·subst hji;exact hy.qOp hi H
  ·have:=hdone _ _ H j (ready_mono hj hji)
   omega
 | succ f ih =>
  intro listed a inv hfree hr hy H
  refine⟨fun h=>(by rw[h] at hr;cases hr),fun j hj=>?_⟩
  have hjn:j<n:=Nat.lt_of_not_le fun h=>absurd hj (tail_waits hs hc hn inv _ i rfl hin (mem_ready.1 hr).1 j h)
  refine⟨hjn,?_⟩
  by_cases hji:j=i
  ·subst hji;exact hy.qOp hi H
  ·obtain⟨hjun,oj,hoj,hall⟩:=mem_ready.1 hj
   have hnot:∀ e∈oj.after,Region.binds md e=true→e.on≠i:=fun e he hb heq=>by
    have h1:=hall e he hb
    rw[heq,getD_both (mem_ready.1 hr).1] at h1
    cases h1
   refine qOp_mono (fun a' h3=>ih (listed.setIfInBounds j true) a' (inv.set hj hjn) (fun k ok hk hki hun hno=>?_) (ready_mono hr (Ne.symm hji)) h3.1 ?_)
    (qOp_put hoj (hfree j oj hoj hji hjun hnot) (fun cs b=>hsel i oi cs b hi) (fun cs b=>hsel j oj cs b hoj) hy (H.2 j (ready_mono hj hji)).2)
   ·refine hfree k ok hk hki ?_ hno
    by_cases hjk:j=k
    ·subst hjk;exact hjun
    ·rwa [getD_set_ne true hjk] at hun
   ·rw[Array.setIfInBounds_comm _ _ hji]
    exact h3.2
theorem anyHead_lex {n g:Nat} {Lq:Act→Prop} (hsel:Region.noSelect ops=true) (hs:Region.sinkB md ops n=true) (hc:Region.chainB md ops n=true) (hn:n<ops.size) :
  ∀ (l:List Oper) (k:Nat) (listed:Array Bool) (a:Act),(∀ j,j<l.length→l[j]?=ops[k+j]?)→k+l.length=n→HeadInv md ops n listed →
  Region.lexHead md ops g l.length k listed=true→wpQuiet P ops C Lq l a →
  anyHead P md ops C n (fun listed' a'=>Region.seqB md ops g n listed'=true∧Lq a') l.length listed a
 | [],k,listed,a,_,hk,_,hB,h=>by
  obtain rfl:k=n:=by simpa using hk
  exact⟨by simpa [Region.lexHead] using hB,h⟩
 | o :: l,k,listed,a,hl,hk,inv,hB,h=>by
  have h0:ops[k]?=some o:=by simpa using (hl 0 (by simp)).symm
  simp only[List.length_cons,Region.lexHead,Bool.and_eq_true] at hB
  obtain⟨⟨hr,hf⟩,hB'⟩:=hB
  have hkn:k<n:=by simp only[List.length_cons] at hk;omega
  have hr':k∈Region.ready md ops listed:=by simpa using hr
  obtain⟨v,hy,hK⟩:=yieldsIn_of_qOp h0 (show qOp P ops C k (wpQuiet P ops C Lq l) a by unfold qOp;simp only[h0];exact h)
  exact anyHead_first h0 (Region.noSelect_spec hsel) hs hc hn hkn (fun listed' a' hL=>seqB_ready hL.1) l.length listed a inv (Region.free_spec h0 hf) hr' hy
   (anyHead_lex hsel hs hc hn l (k+1) _ _ (fun j hj=>by have:=hl (j+1) (by simp;omega);simpa [Nat.add_assoc,Nat.add_comm 1 j] using this) (by simp only[List.length_cons] at hk;omega) (inv.set hr' hkn) hB' hK)
theorem wp_region_quiet_tail {id:Nat} {Q:Exit→Act→World→Prop} {a:Act} {w:World} {l:List Oper} (n:Nat) (hm:P.follows .mixedOrders=true) (hB:Region.lexTailB .any l.toArray n=true) (hC:C { w with drawn:=w.drawn+1 })
  (h:wpQuiet P l.toArray C (fun a'=>∀ w',C w'→wpList P l.toArray Q (l.drop n) a' w') (l.take n) a):(Code.region id l.toArray true).wp P Q a w:=by
 simp only[Region.lexTailB,Bool.and_eq_true,decide_eq_true_eq] at hB
 obtain⟨⟨⟨⟨hsel,hn⟩,hs⟩,hc⟩,hlex⟩:=hB
 have hn':n<l.length:=by simpa using hn
 have htl:(l.take n).length=n:=by simp;omega
 have hdl:(l.drop n).length=l.toArray.size - n:=by simp
 have inv0:HeadInv .any l.toArray n (Array.replicate l.toArray.size false) :=
  ⟨by simp,fun j oj _ hl=>(by rw[getD_replicate_false] at hl;cases hl),fun t _ ht=>getD_in (by simpa using ht) (getD_replicate_false _ _)⟩
 have H:=anyHead_lex (md:=.any) (C:=C) (g:=l.toArray.size - n) hsel hs hc hn (l.take n) 0 _ a (fun j hj=>by
  have hj':j<n:=by rw[htl] at hj;exact hj
  simp[hj']) (by simpa using htl) inv0 (by rw[htl];exact hlex) h
 have G:=anyHead_goes (Q':=Q) (g:=l.toArray.size - n) (fun listed a' w' hw' hL=>by
  have:=wpAny_of_seq (md:=.any) (Q':=Q) (l.drop n) n listed a' w' (fun j=>by simp[List.getElem?_drop]) (by rw[hdl];exact hL.1) (hL.2 w' hw')
  rwa [hdl] at this) _ _ _ _ hC H
 rw[htl,show n+(l.toArray.size - n)=l.toArray.size by omega] at G
 exact wp_region_any hm G
end
theorem wp_region_after_tail {P:Program} {id:Nat} {Q:Exit→Act→World→Prop} {a:Act} {w:World} {l:List Oper} (n:Nat) (hm:P.follows .mixedOrders=true) (hB:Region.lexTailB .any l.toArray n=true)
  (h:wpQuiet P l.toArray (fun w'=>∃ x:After w,w'=x.W) (fun a'=>∀ w',(∃ x:After w,w'=x.W)→wpList P l.toArray Q (l.drop n) a' w') (l.take n) a):(Code.region id l.toArray true).wp P Q a w :=
 wp_region_quiet_tail (C:=fun w'=>∃ x:After w,w'=x.W) n hm hB ⟨⟨w.drew,(Below.refl _ _).drew⟩,rfl⟩ h
end Go.Proofs.YtapbglhjamddbaaGreatDoor
