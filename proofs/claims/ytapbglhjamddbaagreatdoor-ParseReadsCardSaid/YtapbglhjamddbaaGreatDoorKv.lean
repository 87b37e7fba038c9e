/- A part of the proof. -/
import Derived.Test.YtapbglhjamddbaaGreatDoorKb
import Derived.BigQuiet
import Derived.Test.YtapbglhjamddbaaGreatDoorPkJ
import Derived.Test.YtapbglhjamddbaaGreatDoorKt
import Derived.Test.YtapbglhjamddbaaGreatDoorLay
import Derived.Lib.AtoiAllCases
import Derived.Laws.BytesString
import Derived.Test.YtapbglhjamddbaaGreatDoorHd
namespace Go.Proofs.YtapbglhjamddbaaGreatDoor
open Go.RowKit
def wordsL:List ByteArray:=[⟨#[115,101,108,101,99,116]⟩,⟨#[100,105,115,116,105,110,99,116]⟩,⟨#[102,114,111,109]⟩,⟨#[106,111,105,110]⟩,⟨#[108,101,102,116]⟩,⟨#[115,101,109,105]⟩,⟨#[111,110]⟩,⟨#[119,104,101,114,101]⟩,⟨#[103,114,111,117,112]⟩,⟨#[98,121]⟩,⟨#[117,110,105,111,110]⟩,⟨#[97,108,108]⟩,⟨#[111,114,100,101,114]⟩,⟨#[100,101,115,99]⟩,⟨#[97,110,100]⟩,⟨#[111,114]⟩,⟨#[110,111,116]⟩,⟨#[105,115]⟩,⟨#[110,117,108,108]⟩,⟨#[116,114,117,101]⟩,⟨#[102,97,108,115,101]⟩,⟨#[99,111,117,110,116]⟩,⟨#[115,117,109]⟩,⟨#[109,105,110]⟩,⟨#[109,97,120]⟩]
def byt (s:ByteArray) (i:Nat):Int:=((s.data[i]?.getD 0).toNat:Int)
set_option maxRecDepth 100000 in
set_option maxHeartbeats 1000000 in
theorem rwords_any (w:World):Calls Tryz.prog 59 #[] w fun e w'=>∃ g,e=.returned (.slice (some ⟨g,0,none⟩) 25 25)∧StrsA w' w.heap.size w'.heap.size (some ⟨g,0,none⟩) wordsL∧Below w.heap.size w w':=by
 go_enter Tryz.func59,Tryz.ntmps59
 go_wp2
 go_ret
 refine⟨_,rfl,fun i _=>⟨w.heap.size,0,rfl,Nat.le_refl _,by simp,fun j x hx=>?_⟩,(Below.refl _ _).alloc (Nat.le_refl _) _⟩
 unfold strC
 rw[Lib.cell_of_heap (heap_alloc_new w _)]
 have hj:j<25:=(List.getElem?_eq_some_iff.1 hx).1
 rw[Nat.zero_add,Nat.mul_one]
 have key:(wordsL.map Value.string).toArray[j]?=some (.string x):=by rw[List.getElem?_toArray,List.getElem?_map,hx];rfl
 exact key
theorem byt_at (s:ByteArray) (i:Nat) (h:i<s.size):((s[i]'h).toNat:Int)=byt s i:=by
 have h':i<s.data.size:=h
 unfold byt
 rw[Array.getElem?_eq_getElem h']
 rfl
open Go.RowKit
set_option maxRecDepth 100000
theorem byt_data {s:ByteArray} {k:Nat} {b:UInt8} (h:s.data.toList[k]?=some b):k<s.size∧byt s k=(b.toNat:Int):=by
 have hl:=(List.getElem?_eq_some_iff.1 h).1
 rw[Array.length_toList] at hl
 refine⟨hl,?_⟩
 rw[Array.getElem?_toList] at h
 unfold byt
 rw[h]
 rfl
theorem not_blank {b:UInt8} (h:isBlank b=false):(b.toNat:Int)≠32∧(b.toNat:Int)≠9∧(b.toNat:Int)≠10∧(b.toNat:Int)≠13:=by
 have:b.toNat≠32∧b.toNat≠9∧b.toNat≠10∧b.toNat≠13:=all_bytes (P:=fun b=>isBlank b=false→b.toNat≠32∧b.toNat≠9∧b.toNat≠10∧b.toNat≠13) (by decide) b h
 omega
theorem yes_blank {b:UInt8} (h:isBlank b=true):(b.toNat:Int)=32∨(b.toNat:Int)=9∨(b.toNat:Int)=10∨(b.toNat:Int)=13:=by
 rcases blank_cases h with rfl | rfl | rfl | rfl <;> simp
theorem bsB_at (s:ByteArray) (k:Nat) (b:UInt8) (h:s.data.toList[k]?=some b):s.extract k (k+1)=bsB [b]:=by
 apply ByteArray.ext
 rw[ByteArray.data_extract]
 apply Array.ext'
 rw[Array.toList_extract]
 have hl:=(List.getElem?_eq_some_iff.1 h)
 obtain⟨h1,h2⟩:=hl
 rw[List.extract_eq_take_drop,show k+1 - k=1 by omega]
 rw[List.drop_eq_getElem_cons h1,h2]
 rfl
open Go.RowKit
set_option maxRecDepth 100000
theorem blank_num (b:UInt8):isBlank b=decide (b.toNat=32∨b.toNat=9∨b.toNat=10∨b.toNat=13):=all_bytes (P:=fun b=>isBlank b=decide (b.toNat=32∨b.toNat=9∨b.toNat=10∨b.toNat=13)) (by decide) b
theorem lblank_any (b:UInt8) (x:Int) (hx:x=(b.toNat:Int)) (w:World):Calls Tryz.prog 41 #[.int .u8 x] w fun e w'=>e=.returned (.bool (isBlank b))∧w'=w:=by
 have hb:=blank_num b
 obtain⟨t,ht⟩:∃ t,t=isBlank b:=⟨_,rfl⟩
 rw[← ht] at hb ⊢
 clear ht
 by_cases h1:x=32
 ·obtain rfl:t=true:=by rw[hb];simp;omega
  have m1:(x == 32)=true:=by rw[beq_iff_eq];exact h1
  clear hb hx h1
  go_enter Tryz.func41,Tryz.ntmps41
  go_wp2
  go_ret
  exact⟨rfl,rfl⟩
 ·have m1:(x == 32)=false:=by rw[beq_eq_false_iff_ne];exact h1
  by_cases h2:x=9
  ·obtain rfl:t=true:=by rw[hb];simp;omega
   have m2:(x == 9)=true:=by rw[beq_iff_eq];exact h2
   clear hb hx h1 h2
   go_enter Tryz.func41,Tryz.ntmps41
   go_wp2
   go_ret
   exact⟨rfl,rfl⟩
  ·have m2:(x == 9)=false:=by rw[beq_eq_false_iff_ne];exact h2
   by_cases h3:x=10
   ·obtain rfl:t=true:=by rw[hb];simp;omega
    have m3:(x == 10)=true:=by rw[beq_iff_eq];exact h3
    clear hb hx h1 h2 h3
    go_enter Tryz.func41,Tryz.ntmps41
    go_wp2
    go_ret
    exact⟨rfl,rfl⟩
   ·have m3:(x == 10)=false:=by rw[beq_eq_false_iff_ne];exact h3
    by_cases h4:x=13
    ·obtain rfl:t=true:=by rw[hb];simp;omega
     have m4:(x == 13)=true:=by rw[beq_iff_eq];exact h4
     clear hb hx h1 h2 h3 h4
     go_enter Tryz.func41,Tryz.ntmps41
     go_wp2
     go_ret
     exact⟨rfl,rfl⟩
    ·have m4:(x == 13)=false:=by rw[beq_eq_false_iff_ne];exact h4
     obtain rfl:t=false:=by rw[hb];simp;omega
     clear hb hx h1 h2 h3 h4
     go_enter Tryz.func41,Tryz.ntmps41
     go_wp2
     go_ret
     exact⟨rfl,rfl⟩
theorem lletter_any (b:UInt8) (x:Int) (hx:x=(b.toNat:Int)) (w:World):Calls Tryz.prog 42 #[.int .u8 x] w fun e w'=>e=.returned (.bool (isLetter b))∧w'=w:=by
 have hb:=letter_num b
 have h256:=b.toNat_lt
 obtain⟨t,ht⟩:∃ t,t=isLetter b:=⟨_,rfl⟩
 rw[← ht] at hb ⊢
 clear ht
 by_cases h1:x ≥ 97
 ·by_cases h2:x≤122
  ·obtain rfl:t=true:=by rw[hb];simp;omega
   clear hb hx
   go_enter Tryz.func42,Tryz.ntmps42
   go_wp2
   go_ret
   exact⟨rfl,rfl⟩
  ·obtain rfl:t=false:=by rw[hb];simp;omega
   have h3:x ≥ 65:=by omega
   have h4:¬ x≤90:=by omega
   clear hb hx
   go_enter Tryz.func42,Tryz.ntmps42
   go_wp2
   go_ret
   exact⟨rfl,rfl⟩
 ·by_cases h3:x ≥ 65
  ·by_cases h4:x≤90
   ·obtain rfl:t=true:=by rw[hb];simp;omega
    clear hb hx
    go_enter Tryz.func42,Tryz.ntmps42
    go_wp2
    go_ret
    exact⟨rfl,rfl⟩
   ·obtain rfl:t=false:=by rw[hb];simp;omega
    clear hb hx
    go_enter Tryz.func42,Tryz.ntmps42
    go_wp2
    go_ret
    exact⟨rfl,rfl⟩
  ·obtain rfl:t=false:=by rw[hb];simp;omega
   clear hb hx
   go_enter Tryz.func42,Tryz.ntmps42
   go_wp2
   go_ret
   exact⟨rfl,rfl⟩
theorem ldigit_any (b:UInt8) (x:Int) (hx:x=(b.toNat:Int)) (w:World):Calls Tryz.prog 44 #[.int .u8 x] w fun e w'=>e=.returned (.bool (isDigit b))∧w'=w:=by
 have hb:=digit_num b
 obtain⟨t,ht⟩:∃ t,t=isDigit b:=⟨_,rfl⟩
 rw[← ht] at hb ⊢
 clear ht
 by_cases h1:x ≥ 48
 ·by_cases h2:x≤57
  ·obtain rfl:t=true:=by rw[hb];simp;omega
   clear hb hx
   go_enter Tryz.func44,Tryz.ntmps44
   go_wp2
   go_ret
   exact⟨rfl,rfl⟩
  ·obtain rfl:t=false:=by rw[hb];simp;omega
   clear hb hx
   go_enter Tryz.func44,Tryz.ntmps44
   go_wp2
   go_ret
   exact⟨rfl,rfl⟩
 ·obtain rfl:t=false:=by rw[hb];simp;omega
  clear hb hx
  go_enter Tryz.func44,Tryz.ntmps44
  go_wp2
  go_ret
  exact⟨rfl,rfl⟩
theorem part_num (b:UInt8) (h1:isLetter b=false) (h2:isDigit b=false):isWordB b=decide (b.toNat=95):=by
 have h:=all_bytes (P:=fun b=>(b == 95)=decide (b.toNat=95)) (by decide) b
 unfold isWordB
 rw[h1,h2,Bool.or_false,Bool.false_or]
 exact h
theorem lpart_any (b:UInt8) (x:Int) (hx:x=(b.toNat:Int)) (w:World):Calls Tryz.prog 66 #[.int .u8 x] w fun e w'=>e=.returned (.bool (isWordB b))∧w'=w:=by
 have c1:=lletter_any b x hx
 have c2:=ldigit_any b x hx
 cases h1:isLetter b with
 | true =>
  rw[h1] at c1
  have e:isWordB b=true:=letter_word h1
  rw[e]
  clear hx h1 e c2
  go_enter Tryz.func66,Tryz.ntmps66
  go_wp2_with (go_at_call 42;refine (c1 _).mono ?_;rintro e w1 ⟨rfl,rfl⟩)
  go_ret
  exact⟨rfl,rfl⟩
 | false =>
  rw[h1] at c1
  cases h2:isDigit b with
  | true =>
   rw[h2] at c2
   have e:isWordB b=true:=by unfold isWordB;rw[h1,h2];rfl
   rw[e]
   clear hx h1 h2 e
   go_enter Tryz.func66,Tryz.ntmps66
   go_wp2_with (first |(go_at_call 42;refine (c1 _).mono ?_;rintro e w1 ⟨rfl,rfl⟩) |(go_at_call 44;refine (c2 _).mono ?_;rintro e w1 ⟨rfl,rfl⟩))
   go_ret
   exact⟨rfl,rfl⟩
  | false =>
   rw[h2] at c2
   rw[part_num b h1 h2]
   clear h1 h2
   obtain⟨t,ht⟩:∃ t,t=decide (b.toNat=95):=⟨_,rfl⟩
   rw[← ht]
   have m:(x == 95)=t:=by rw[ht,hx,Bool.eq_iff_iff,beq_iff_eq,decide_eq_true_iff];omega
   clear hx ht
   cases t
   ·go_enter Tryz.func66,Tryz.ntmps66
    go_wp2_with (first |(go_at_call 42;refine (c1 _).mono ?_;rintro e w1 ⟨rfl,rfl⟩) |(go_at_call 44;refine (c2 _).mono ?_;rintro e w1 ⟨rfl,rfl⟩))
    go_ret
    exact⟨rfl,rfl⟩
   ·go_enter Tryz.func66,Tryz.ntmps66
    go_wp2_with (first |(go_at_call 42;refine (c1 _).mono ?_;rintro e w1 ⟨rfl,rfl⟩) |(go_at_call 44;refine (c2 _).mono ?_;rintro e w1 ⟨rfl,rfl⟩))
    go_ret
    exact⟨rfl,rfl⟩
set_option maxHeartbeats 1000000 in
theorem span_blank (s:ByteArray) (w:World) (hs:s.size≤2000) :
  Calls Tryz.prog 40 #[.string s,.func (.func 41) #[] #[]] w fun e w'=>e=.returned (.int .i64 ((s.data.toList.takeWhile isBlank).length:Int))∧w'=w:=by
 have hsl:s.data.toList.length=s.size:=Array.length_toList
 obtain⟨d,hd⟩:∃ d,d=s.data.toList.takeWhile isBlank:=⟨_,rfl⟩
 rw[← hd]
 have hdl:d.length≤s.size:=by
  have:=takeWhile_le isBlank s.data.toList
  rw[← hd,hsl] at this
  exact this
 go_enter Tryz.func40,Tryz.ntmps40
 go_wp2_with fail
 go_loopw [5] (fun va wr=>∃ j:Nat,va=.int .i64 j∧j≤d.length∧wr=w) (fun va _=>s.size - (intOf va).toNat)
 case atStart=>exact⟨0,rfl,Nat.zero_le _,rfl⟩
 case round =>
  obtain⟨j,rfl,hj,rfl⟩:=hrel
  by_cases hlt:j<s.size
  ·obtain⟨b,hb⟩:∃ b,s.data.toList[j]?=some b:=⟨_,List.getElem?_eq_getElem (by rw[hsl];exact hlt)⟩
   obtain⟨p4,p5⟩:=byt_data hb
   have eb:=(byt_at s j p4).trans p5
   have hiff:=takeWhile_at (p:=isBlank) (i:=j) (by rw[← hd];omega) hb
   rw[← hd] at hiff
   obtain⟨x,hx⟩:∃ x,x=(b.toNat:Int):=⟨_,rfl⟩
   rw[← hx] at eb
   have CC:=lblank_any b x hx
   clear p5 hb
   cases hc:isBlank b with
   | true =>
    rw[hc] at CC
    have hin:=hiff.2 hc
    clear hiff hc hx hd hsl
    go_wp2_with (go_at_call 41;refine (CC _).mono ?_;rintro e w2 ⟨rfl,rfl⟩)
    go_roundw
    case rel=>exact⟨j+1,by go_num,by omega,trivial⟩
    case measure=>simp[intOf] <;> omega
   | false =>
    rw[hc] at CC
    have hjd:j=d.length:=by
     have h:¬ j<d.length:=fun h=>by
      have:=hiff.1 h
      rw[hc] at this
      cases this
     omega
    have HJ:=zH hjd
    clear hiff hc hx hd hsl hjd
    go_wp2_with (go_at_call 41;refine (CC _).mono ?_;rintro e w2 ⟨rfl,rfl⟩)
    refine bodyPost_ret (v:=.int .i64 (j:Int)) (by simp[results,Tryz.results40,go_sem]) rfl ⟨by rw[HJ.out],rfl⟩
  ·have hjd:j=d.length:=by omega
   have HJ:=zH hjd
   clear hd hsl hjd
   go_wp2_with fail
   refine bodyPost_ret (v:=.int .i64 (j:Int)) (by simp[results,Tryz.results40,go_sem]) rfl ⟨by rw[HJ.out],rfl⟩
set_option maxHeartbeats 1000000 in
theorem span_part (s:ByteArray) (w:World) (hs:s.size≤2000) :
  Calls Tryz.prog 40 #[.string s,.func (.func 66) #[] #[]] w fun e w'=>e=.returned (.int .i64 ((s.data.toList.takeWhile isWordB).length:Int))∧w'=w:=by
 have hsl:s.data.toList.length=s.size:=Array.length_toList
 obtain⟨d,hd⟩:∃ d,d=s.data.toList.takeWhile isWordB:=⟨_,rfl⟩
 rw[← hd]
 have hdl:d.length≤s.size:=by
  have:=takeWhile_le isWordB s.data.toList
  rw[← hd,hsl] at this
  exact this
 go_enter Tryz.func40,Tryz.ntmps40
 go_wp2_with fail
 go_loopw [5] (fun va wr=>∃ j:Nat,va=.int .i64 j∧j≤d.length∧wr=w) (fun va _=>s.size - (intOf va).toNat)
 case atStart=>exact⟨0,rfl,Nat.zero_le _,rfl⟩
 case round =>
  obtain⟨j,rfl,hj,rfl⟩:=hrel
  by_cases hlt:j<s.size
  ·obtain⟨b,hb⟩:∃ b,s.data.toList[j]?=some b:=⟨_,List.getElem?_eq_getElem (by rw[hsl];exact hlt)⟩
   obtain⟨p4,p5⟩:=byt_data hb
   have eb:=(byt_at s j p4).trans p5
   have hiff:=takeWhile_at (p:=isWordB) (i:=j) (by rw[← hd];omega) hb
   rw[← hd] at hiff
   obtain⟨x,hx⟩:∃ x,x=(b.toNat:Int):=⟨_,rfl⟩
   rw[← hx] at eb
   have CC:=lpart_any b x hx
   clear p5 hb
   cases hc:isWordB b with
   | true =>
    rw[hc] at CC
    have hin:=hiff.2 hc
    clear hiff hc hx hd hsl
    go_wp2_with (go_at_call 66;refine (CC _).mono ?_;rintro e w2 ⟨rfl,rfl⟩)
    go_roundw
    case rel=>exact⟨j+1,by go_num,by omega,trivial⟩
    case measure=>simp[intOf] <;> omega
   | false =>
    rw[hc] at CC
    have hjd:j=d.length:=by
     have h:¬ j<d.length:=fun h=>by
      have:=hiff.1 h
      rw[hc] at this
      cases this
     omega
    have HJ:=zH hjd
    clear hiff hc hx hd hsl hjd
    go_wp2_with (go_at_call 66;refine (CC _).mono ?_;rintro e w2 ⟨rfl,rfl⟩)
    refine bodyPost_ret (v:=.int .i64 (j:Int)) (by simp[results,Tryz.results40,go_sem]) rfl ⟨by rw[HJ.out],rfl⟩
  ·have hjd:j=d.length:=by omega
   have HJ:=zH hjd
   clear hd hsl hjd
   go_wp2_with fail
   refine bodyPost_ret (v:=.int .i64 (j:Int)) (by simp[results,Tryz.results40,go_sem]) rfl ⟨by rw[HJ.out],rfl⟩
set_option maxHeartbeats 1000000 in
theorem span_digit (s:ByteArray) (w:World) (hs:s.size≤2000) :
  Calls Tryz.prog 40 #[.string s,.func (.func 44) #[] #[]] w fun e w'=>e=.returned (.int .i64 ((s.data.toList.takeWhile isDigit).length:Int))∧w'=w:=by
 have hsl:s.data.toList.length=s.size:=Array.length_toList
 obtain⟨d,hd⟩:∃ d,d=s.data.toList.takeWhile isDigit:=⟨_,rfl⟩
 rw[← hd]
 have hdl:d.length≤s.size:=by
  have:=takeWhile_le isDigit s.data.toList
  rw[← hd,hsl] at this
  exact this
 go_enter Tryz.func40,Tryz.ntmps40
 go_wp2_with fail
 go_loopw [5] (fun va wr=>∃ j:Nat,va=.int .i64 j∧j≤d.length∧wr=w) (fun va _=>s.size - (intOf va).toNat)
 case atStart=>exact⟨0,rfl,Nat.zero_le _,rfl⟩
 case round =>
  obtain⟨j,rfl,hj,rfl⟩:=hrel
  by_cases hlt:j<s.size
  ·obtain⟨b,hb⟩:∃ b,s.data.toList[j]?=some b:=⟨_,List.getElem?_eq_getElem (by rw[hsl];exact hlt)⟩
   obtain⟨p4,p5⟩:=byt_data hb
   have eb:=(byt_at s j p4).trans p5
   have hiff:=takeWhile_at (p:=isDigit) (i:=j) (by rw[← hd];omega) hb
   rw[← hd] at hiff
   obtain⟨x,hx⟩:∃ x,x=(b.toNat:Int):=⟨_,rfl⟩
   rw[← hx] at eb
   have CC:=ldigit_any b x hx
   clear p5 hb
   cases hc:isDigit b with
   | true =>
    rw[hc] at CC
    have hin:=hiff.2 hc
    clear hiff hc hx hd hsl
    go_wp2_with (go_at_call 44;refine (CC _).mono ?_;rintro e w2 ⟨rfl,rfl⟩)
    go_roundw
    case rel=>exact⟨j+1,by go_num,by omega,trivial⟩
    case measure=>simp[intOf] <;> omega
   | false =>
    rw[hc] at CC
    have hjd:j=d.length:=by
     have h:¬ j<d.length:=fun h=>by
      have:=hiff.1 h
      rw[hc] at this
      cases this
     omega
    have HJ:=zH hjd
    clear hiff hc hx hd hsl hjd
    go_wp2_with (go_at_call 44;refine (CC _).mono ?_;rintro e w2 ⟨rfl,rfl⟩)
    refine bodyPost_ret (v:=.int .i64 (j:Int)) (by simp[results,Tryz.results40,go_sem]) rfl ⟨by rw[HJ.out],rfl⟩
  ·have hjd:j=d.length:=by omega
   have HJ:=zH hjd
   clear hd hsl hjd
   go_wp2_with fail
   refine bodyPost_ret (v:=.int .i64 (j:Int)) (by simp[results,Tryz.results40,go_sem]) rfl ⟨by rw[HJ.out],rfl⟩
open Go.RowKit
set_option maxRecDepth 100000
def LRes:One→Ending→Prop
 | .tok kd n s used,e=>e=.returned (.tuple #[.agg #[.int .i64 (kd:Int),.int .i64 (n:Int),.int .i64 0,.string (bsB s)],.int .i64 (used:Int),.int .i64 0])
 | .err er rel,e=>e=.returned (.tuple #[.agg #[.int .i64 0,.int .i64 0,.int .i64 0,.string ⟨#[]⟩],.int .i64 (rel:Int),.int .i64 (er:Int)])
theorem LRes.tok_of {kd n used:Nat} {s:Bs} {x:Int} (h:x=(used:Int)):LRes (.tok kd n s used) (.returned (.tuple #[.agg #[.int .i64 (kd:Int),.int .i64 (n:Int),.int .i64 0,.string (bsB s)],.int .i64 x,.int .i64 0])):=by rw[h];rfl
structure TK (W:World) (g:Nat) (kd n a:Int) (st:ByteArray):Prop where
 lt:g<W.heap.size
 c0:W.cell? ⟨g,0,none⟩=some (.int .i64 kd)
 c1:W.cell? ⟨g,1,none⟩=some (.int .i64 n)
 c2:W.cell? ⟨g,2,none⟩=some (.int .i64 a)
 c3:W.cell? ⟨g,3,none⟩=some (.string st)
 fz:∀ o,W.frozen? ⟨g,o,none⟩=false
theorem TK.ext {W W':World} {g:Nat} {kd n a:Int} {st:ByteArray} (h:TK W g kd n a st) {m:Nat} (hb:Below m W W') (hm:g<m):TK W' g kd n a st :=
 ⟨Nat.lt_of_lt_of_le h.lt hb.size,(hb.cell (p:=⟨_,_,none⟩) hm).trans h.c0,(hb.cell (p:=⟨_,_,none⟩) hm).trans h.c1,(hb.cell (p:=⟨_,_,none⟩) hm).trans h.c2,(hb.cell (p:=⟨_,_,none⟩) hm).trans h.c3,fun o=>(hb.frozen (p:=⟨_,o,none⟩) hm).trans (h.fz o)⟩
theorem TK.on {W W':World} {g:Nat} {kd n a:Int} {st:ByteArray} (h:TK W g kd n a st) (hb:Below W.heap.size W W'):TK W' g kd n a st:=h.ext hb h.lt
theorem TK.new (w:World) (kd n a:Int) (st:ByteArray) (T:TypeId):TK (w.alloc (.cells #[.int .i64 kd,.int .i64 n,.int .i64 a,.string st] T)) w.heap.size kd n a st :=
 ⟨by simp,by simp[go_sem],by simp[go_sem],by simp[go_sem],by simp[go_sem],fun o=>by simp[go_sem]⟩
theorem foldl_grows (l:Bs) (acc:Nat):acc≤l.foldl numStep acc:=by
 induction l generalizing acc with
 | nil=>exact Nat.le_refl _
 | cons b l ih =>
  rw[List.foldl_cons]
  exact Nat.le_trans (by unfold numStep;omega) (ih _)
theorem parse_ok:∀ (l:Bs) (acc:Nat),(∀ b∈l,isDigit b=true)→l.foldl numStep acc≤9223372036854775807→Lib.parseUint10 acc l=.ok (l.foldl numStep acc)
 | [],_,_,_=>rfl
 | b :: l,acc,hd,hm=>by
  have h1:=hd b List.mem_cons_self
  rw[digit_num] at h1
  have h2:=of_decide_eq_true h1
  rw[List.foldl_cons] at hm ⊢
  have h3:=foldl_grows l (numStep acc b)
  have e:numStep acc b=acc*10+(b.toNat - 48):=by unfold numStep;omega
  rw[Lib.parseUint10,if_pos h2,if_neg (by omega),if_neg (by omega),← e]
  exact parse_ok l _ (fun c hc=>hd c (List.mem_cons_of_mem _ hc)) hm
theorem parse_big:∀ (l:Bs) (acc:Nat),(∀ b∈l,isDigit b=true)→9223372036854775807<l.foldl numStep acc→Lib.parseUint10 acc l=.range∨∃ u,Lib.parseUint10 acc l=.ok u∧9223372036854775807<u
 | [],acc,_,hm=>.inr ⟨acc,rfl,hm⟩
 | b :: l,acc,hd,hm=>by
  have h1:=hd b List.mem_cons_self
  rw[digit_num] at h1
  have h2:=of_decide_eq_true h1
  have e:numStep acc b=acc*10+(b.toNat - 48):=by unfold numStep;omega
  rw[Lib.parseUint10,if_pos h2]
  split
  ·exact .inl rfl
  ·split
   ·exact .inl rfl
   ·rw[← e]
    exact parse_big l _ (fun c hc=>hd c (List.mem_cons_of_mem _ hc)) hm
theorem atoi_digits (l:Bs) (hd:∀ b∈l,isDigit b=true) (hne:l≠[]):(numOf l≤9223372036854775807→Lib.atoiAll l=.ok (numOf l:Int))∧(9223372036854775807<numOf l→Lib.atoiAll l=.range):=by
 cases l with
 | nil=>exact absurd rfl hne
 | cons b l =>
  have h1:=hd b List.mem_cons_self
  rw[digit_num] at h1
  have h2:=of_decide_eq_true h1
  have e:Lib.atoiAll (b :: l)=Lib.signless (Lib.parseUint10 0 (b :: l)):=by
   rw[Lib.atoiAll_plain b l (by omega) (by omega),Lib.parseMag,if_neg (by simp)]
  rw[e]
  refine⟨fun h=>?_,fun h=>?_⟩
  ·rw[parse_ok (b :: l) 0 hd h,Lib.signless,if_neg (by unfold numOf at h;omega)];rfl
  ·rcases parse_big (b :: l) 0 hd h with h3 |⟨u,h3,h4⟩
   ·rw[h3];rfl
   ·rw[h3,Lib.signless,if_pos (by omega)]
theorem atoi_ok (t:ByteArray) (l:Bs) (ht:t.data.toList=l) (w:World) (hs:t.size≤2000) (hd:∀ b∈l,isDigit b=true) (hne:l≠[]) (hm:numOf l≤9223372036854775807) :
  Calls Tryz.prog 68 #[.string t] w fun e w'=>e=.returned (.tuple #[.int .i64 (numOf l:Int),.nilIface])∧Below w.heap.size w w':=by
 have h:Calls Tryz.prog 68 #[.string t] w _:=Any.strconv_Atoi_ok Tryz.laysC172 t (by omega) (numOf l:Int) (by rw[ht];exact (atoi_digits l hd hne).1 hm) w
 refine h.mono ?_
 rintro e w' ⟨rfl,rfl |⟨u,rfl⟩⟩
 ·exact⟨rfl,ext_refl _⟩
 ·exact⟨rfl,Lib.bytesWorld_below _ _ _⟩
theorem atoi_big (t:ByteArray) (l:Bs) (ht:t.data.toList=l) (w:World) (hG:GV w) (hs:t.size≤2000) (hd:∀ b∈l,isDigit b=true) (hne:l≠[]) (hm:9223372036854775807<numOf l) :
  Calls Tryz.prog 68 #[.string t] w fun e w'=>(∃ n N,e=.returned (.tuple #[.int .i64 n,.iface 152 (.pointer (some ⟨N,0,none⟩))]))∧Below w.heap.size w w':=by
 obtain⟨te,pe,he⟩:=hG.er
 have h:Calls Tryz.prog 68 #[.string t] w _:=Any.strconv_Atoi_range Tryz.laysC172 t (by omega) (by rw[ht];exact (atoi_digits l hd hne).2 hm) (.iface te pe) w he (.inr ⟨te,pe,rfl⟩)
 refine h.mono ?_
 rintro e w' ⟨N,rfl,_,_,hb⟩
 exact⟨⟨_,N,rfl⟩,hb⟩
theorem Tryz.builderX:Builder.Extra Tryz.prog Tryz.lays159_ren where
 sizeBuilder:=by kernel_rfl
 liesBuilder:=by kernel_rfl
 t5:=Tryz.underlying5
 a5:=Tryz.isAgg5
 z5:=Tryz.sizeOf5
 v5:=Tryz.zeroValue5
 infoByte:=by kernel_rfl
 cellsByte:=by kernel_rfl
 sizeByte:=by kernel_rfl
 neB5:=by decide
theorem part_ascii {b:UInt8} (h:isWordB b=true):b.toNat<128:=all_bytes (P:=fun b=>isWordB b=true→b.toNat<128) (by decide) b h
theorem lowerB_lower (b:UInt8):Lib.lowerB b=lower b:=all_bytes (P:=fun b=>Lib.lowerB b=lower b) (by decide) b
theorem tolower_any (s:ByteArray) (w:World) (hs:s.size≤2000) (hw:∀ b∈s.data.toList,isWordB b=true) :
  Calls Tryz.prog 83 #[.string s] w fun e w'=>e=.returned (.string (bsB (s.data.toList.map lower)))∧Below w.heap.size w w':=by
 have h:Calls Tryz.prog 83 #[.string s] w _:=Any.strings_ToLower_ascii Tryz.lays159 Tryz.builderX s w (by omega) (fun j b hj=>part_ascii (hw b (List.mem_of_getElem? hj)))
 refine h.mono ?_
 rintro e w' ⟨rfl,hb⟩
 refine⟨?_,hb⟩
 rw[Lib.toLowerA,show Lib.lowerB=lower from funext lowerB_lower]
theorem clone_any (s:ByteArray) (w:World) (hs:s.size≤2000):Calls Tryz.prog 82 #[.string s] w fun e w'=>e=.returned (.string s)∧Below w.heap.size w w':=by
 have h:Calls Tryz.prog 94 #[.string s] w _:=Any.stringslite_Clone Tryz.laysM316 s w (by omega)
 go_enter Tryz.func82,Tryz.ntmps82
 go_wp2_with fail
 refine h.mono ?_
 rintro e w' ⟨rfl,hb⟩
 go_wp2_with fail
 go_ret
 exact⟨rfl,hb⟩
theorem lower_any (s:ByteArray) (w:World) (hs:s.size≤2000) (hw:∀ b∈s.data.toList,isWordB b=true) :
  Calls Tryz.prog 67 #[.string s] w fun e w'=>e=.returned (.string (bsB (s.data.toList.map lower)))∧Below w.heap.size w w':=by
 have hsl:s.data.toList.length=s.size:=Array.length_toList
 obtain⟨l,hl⟩:∃ l,l=bsB (s.data.toList.map lower):=⟨_,rfl⟩
 have hls:l.size≤2000:=by rw[hl];show (s.data.toList.map lower).length≤_;rw[List.length_map,hsl];exact hs
 have c:=tolower_any s w hs hw
 rw[← hl] at c ⊢
 clear hl hw hsl
 go_enter Tryz.func67,Tryz.ntmps67
 go_wp2_with fail
 refine c.mono ?_
 rintro e w1 ⟨rfl,hb1⟩
 go_wp2_with fail
 refine (clone_any l w1 hls).mono ?_
 rintro e w2 ⟨rfl,hb2⟩
 go_wp2_with fail
 go_ret
 exact⟨rfl,ext_trans hb1 hb2⟩
theorem first_data (s:ByteArray) (k:Nat):(s.extract 0 k).data.toList=s.data.toList.take k:=by
 rw[ByteArray.data_extract,Array.toList_extract,List.extract_eq_take_drop,Nat.sub_zero,List.drop_zero]
theorem take_while (p:UInt8→Bool) (l:Bs):l.take (l.takeWhile p).length=l.takeWhile p:=by
 obtain⟨t,ht⟩:=List.takeWhile_prefix p (l:=l)
 generalize l.takeWhile p=d at ht ⊢
 rw[← ht,List.take_left]
theorem while_all {p:UInt8→Bool} {l:Bs} {b:UInt8} (h:b∈l.takeWhile p):p b=true:=by
 have:=List.all_takeWhile (p:=p) (l:=l)
 exact List.all_eq_true.1 this b h
set_option maxHeartbeats 1000000 in
theorem lnumber_any (s:ByteArray) (w:World) (hG:GV w) (hs:s.size≤2000) (b:UInt8) (hb:s.data.toList[0]?=some b) (hd:isDigit b=true) :
  Calls Tryz.prog 45 #[.string s] w fun e w'=>LRes (oneNum s.data.toList) e∧Below w.heap.size w w':=by
 have hsl:s.data.toList.length=s.size:=Array.length_toList
 have hlen:=takeWhile_le isDigit s.data.toList
 obtain⟨D,hD⟩:∃ D,D=s.data.toList.takeWhile isDigit:=⟨_,rfl⟩
 have hD1:D≠[]:=by
  rw[hD]
  cases hl:s.data.toList with
  | nil=>rw[hl] at hb;cases hb
  | cons a r=>rw[hl] at hb;simp at hb;subst hb;rw[List.takeWhile_cons,hd];simp
 have hD2:∀ b∈D,isDigit b=true:=fun b h=>while_all (by rw[← hD];exact h)
 obtain⟨k,hk⟩:∃ k,k=D.length:=⟨_,rfl⟩
 have hks:k≤s.size:=by rw[hk,hD];omega
 have hex:(s.extract 0 k).data.toList=D:=by rw[first_data,hk,hD,take_while]
 have hexs:(s.extract 0 k).size≤2000:=by rw[← show (s.extract 0 k).data.toList.length=(s.extract 0 k).size from Array.length_toList,hex,← hk];omega
 have C0:=zH (fun W=>span_digit s W hs)
 have HO:oneNum s.data.toList=if 9223372036854775807<numOf D then .err 5 0 else .tok 3 (numOf D) [] k:=by unfold oneNum;rw[← hD,hk]
 rw[← hD,← hk] at C0
 obtain⟨x,hx⟩:∃ x,x=s.extract 0 k:=⟨_,rfl⟩
 have HX:=zH hx
 rw[← hx] at hex hexs
 clear hD hsl hlen hb hd hk hx
 by_cases hover:9223372036854775807<numOf D
 ·rw[HO,if_pos hover]
  have CA:=fun W hW=>atoi_big x D hex W hW hexs hD2 hD1 hover
  clear HO hover hD1 hD2 hex
  go_enter Tryz.func45,Tryz.ntmps45
  go_wp2_with fail
  refine (C0.out _).mono ?_
  rintro e w1 ⟨rfl,rfl⟩
  go_wp2_with fail
  rw[← HX.out]
  refine (CA _ (hG.alloc _)).mono ?_
  rintro e w2 ⟨⟨n,N,rfl⟩,hb2⟩
  obtain⟨lt,z0,z1,z2,z3,fz⟩:=(TK.new w 0 0 0 ⟨#[]⟩ 55).on hb2
  go_wp2_with fail
  refine bodyPost_ret (v:=.tuple #[.agg #[.int .i64 0,.int .i64 0,.int .i64 0,.string ⟨#[]⟩],.int .i64 0,.int .i64 5]) (by simp[results,Tryz.results45,go_sem, *]) rfl ⟨rfl,?_⟩
  (repeat (first | exact ext_refl _ | assumption |(refine ext_alloc ?_ _) |(refine ext_drewN ?_ _) | refine ext_drew ?_ |(refine ext_set (by first |(simp;done) |(simp;omega)) _ ?_) |(refine ext_trans ?_ (by assumption))))
 ·rw[HO,if_neg hover]
  have CA:=fun W=>atoi_ok x D hex W hexs hD2 hD1 (by omega)
  obtain⟨m,hm⟩:∃ m,m=numOf D:=⟨_,rfl⟩
  rw[← hm] at CA ⊢
  clear HO hover hD1 hD2 hex hm
  go_enter Tryz.func45,Tryz.ntmps45
  go_wp2_with fail
  refine (C0.out _).mono ?_
  rintro e w1 ⟨rfl,rfl⟩
  go_wp2_with fail
  rw[← HX.out]
  refine (CA _).mono ?_
  rintro e w2 ⟨rfl,hb2⟩
  obtain⟨lt,z0,z1,z2,z3,fz⟩:=(TK.new w 0 0 0 ⟨#[]⟩ 55).on hb2
  go_wp2_with fail
  refine bodyPost_ret (v:=.tuple #[.agg #[.int .i64 3,.int .i64 (m:Int),.int .i64 0,.string ⟨#[]⟩],.int .i64 (k:Int),.int .i64 0]) (by simp[results,Tryz.results45,go_sem, *]) rfl ⟨rfl,?_⟩
  (repeat (first | exact ext_refl _ | assumption |(refine ext_alloc ?_ _) |(refine ext_drewN ?_ _) | refine ext_drew ?_ |(refine ext_set (by first |(simp;done) |(simp;omega)) _ ?_) |(refine ext_trans ?_ (by assumption))))
open Go.RowKit
set_option maxRecDepth 100000
theorem mid_data (s:ByteArray) (i k:Nat):(s.extract i k).data.toList=(s.data.toList.drop i).take (k - i):=by
 rw[ByteArray.data_extract,Array.toList_extract,List.extract_eq_take_drop]
theorem rest_data (s:ByteArray) (i:Nat):(s.extract i s.size).data.toList=s.data.toList.drop i:=by
 rw[mid_data,List.take_of_length_le (by rw[List.length_drop,Array.length_toList];exact Nat.le_refl _)]
set_option maxHeartbeats 1000000 in
theorem lparam_any (s:ByteArray) (w:World) (hG:GV w) (hs:s.size≤2000) (r:Bs) (hr:s.data.toList=36 :: r) :
  Calls Tryz.prog 47 #[.string s] w fun e w'=>LRes (onePar r) e∧Below w.heap.size w w':=by
 have hsl:s.data.toList.length=s.size:=Array.length_toList
 have hlen:=takeWhile_le isDigit r
 have h1:1≤s.size:=by rw[← hsl,hr];simp
 have hrl:r.length+1=s.size:=by rw[← hsl,hr];simp
 obtain⟨D,hD⟩:∃ D,D=r.takeWhile isDigit:=⟨_,rfl⟩
 have hD2:∀ b∈D,isDigit b=true:=fun b h=>while_all (by rw[← hD];exact h)
 obtain⟨k,hk⟩:∃ k,k=D.length:=⟨_,rfl⟩
 have hks:k+1≤s.size:=by rw[hk,hD];omega
 have hy0:(s.extract 1 s.size).data.toList=r:=by rw[rest_data,hr];rfl
 have hys:(s.extract 1 s.size).size≤2000:=by rw[← show (s.extract 1 s.size).data.toList.length=(s.extract 1 s.size).size from Array.length_toList,hy0];omega
 have C0:=zH (fun W=>span_digit (s.extract 1 s.size) W hys)
 rw[hy0,← hD,← hk] at C0
 have hex:(s.extract 1 (1+k)).data.toList=D:=by rw[mid_data,hr,List.drop_succ_cons,List.drop_zero,Nat.add_sub_cancel_left,hk,hD,take_while]
 have hexs:(s.extract 1 (1+k)).size≤2000:=by rw[← show (s.extract 1 (1+k)).data.toList.length=(s.extract 1 (1+k)).size from Array.length_toList,hex,← hk];omega
 have HO:onePar r=if D=[] then .err 6 0 else if numOf D<1∨4<numOf D then .err 5 0 else .tok 5 (numOf D) [] (k+1):=by unfold onePar;rw[← hD,hk]
 obtain⟨y,hy⟩:∃ y,y=s.extract 1 s.size:=⟨_,rfl⟩
 have HY:=zH hy
 rw[← hy] at C0
 obtain⟨x,hx⟩:∃ x,x=s.extract 1 (1+k):=⟨_,rfl⟩
 have HX:=zH hx
 rw[← hx] at hex hexs
 clear hsl hlen hD hy0 hys hy hx hr hrl
 by_cases hn:D=[]
 ·rw[HO,if_pos hn]
  have hk0:k=0:=by rw[hk,hn];rfl
  subst hk0
  clear HO hn hk hD2 hex hexs HX
  go_enter Tryz.func47,Tryz.ntmps47
  go_wp2_with fail
  rw[← HY.out]
  refine (C0.out _).mono ?_
  rintro e w1 ⟨rfl,rfl⟩
  go_wp2_with fail
  refine bodyPost_ret (v:=.tuple #[.agg #[.int .i64 0,.int .i64 0,.int .i64 0,.string ⟨#[]⟩],.int .i64 0,.int .i64 6]) (by simp[results,Tryz.results47,go_sem, *]) rfl ⟨rfl,?_⟩
  (repeat (first | exact ext_refl _ | assumption |(refine ext_alloc ?_ _) |(refine ext_drewN ?_ _) | refine ext_drew ?_ |(refine ext_set (by first |(simp;done) |(simp;omega)) _ ?_) |(refine ext_trans ?_ (by assumption))))
 ·rw[if_neg hn] at HO
  have hk1:((k:Int) == 0)=false:=by
   rw[beq_eq_false_iff_ne]
   intro h
   exact hn (List.length_eq_zero_iff.1 (by omega))
  clear hk
  by_cases hover:9223372036854775807<numOf D
  ·rw[HO,if_pos (.inr (by omega))]
   have CA:=fun W hW=>atoi_big x D hex W hW hexs hD2 hn hover
   clear HO hover hD2 hex hn
   go_enter Tryz.func47,Tryz.ntmps47
   go_wp2_with fail
   rw[← HY.out]
   refine (C0.out _).mono ?_
   rintro e w1 ⟨rfl,rfl⟩
   go_wp2_with fail
   rw[← HX.out]
   refine (CA _ (hG.alloc _)).mono ?_
   rintro e w2 ⟨⟨n,N,rfl⟩,hb2⟩
   obtain⟨lt,z0,z1,z2,z3,fz⟩:=(TK.new w 0 0 0 ⟨#[]⟩ 55).on hb2
   go_wp2_with fail
   refine bodyPost_ret (v:=.tuple #[.agg #[.int .i64 0,.int .i64 0,.int .i64 0,.string ⟨#[]⟩],.int .i64 0,.int .i64 5]) (by simp[results,Tryz.results47,go_sem, *]) rfl ⟨rfl,?_⟩
   (repeat (first | exact ext_refl _ | assumption |(refine ext_alloc ?_ _) |(refine ext_drewN ?_ _) | refine ext_drew ?_ |(refine ext_set (by first |(simp;done) |(simp;omega)) _ ?_) |(refine ext_trans ?_ (by assumption))))
  ·have CA:=fun W=>atoi_ok x D hex W hexs hD2 hn (by omega)
   obtain⟨m,hm⟩:∃ m,m=numOf D:=⟨_,rfl⟩
   rw[← hm] at CA HO hover
   clear hD2 hex hm hn
   by_cases h1:m<1
   ·rw[HO,if_pos (.inl h1)]
    have d1:(m:Int)<1:=by omega
    clear HO hover h1
    go_enter Tryz.func47,Tryz.ntmps47
    go_wp2_with fail
    rw[← HY.out]
    refine (C0.out _).mono ?_
    rintro e w1 ⟨rfl,rfl⟩
    go_wp2_with fail
    rw[← HX.out]
    refine (CA _).mono ?_
    rintro e w2 ⟨rfl,hb2⟩
    obtain⟨lt,z0,z1,z2,z3,fz⟩:=(TK.new w 0 0 0 ⟨#[]⟩ 55).on hb2
    go_wp2_with fail
    refine bodyPost_ret (v:=.tuple #[.agg #[.int .i64 0,.int .i64 0,.int .i64 0,.string ⟨#[]⟩],.int .i64 0,.int .i64 5]) (by simp[results,Tryz.results47,go_sem, *]) rfl ⟨rfl,?_⟩
    (repeat (first | exact ext_refl _ | assumption |(refine ext_alloc ?_ _) |(refine ext_drewN ?_ _) | refine ext_drew ?_ |(refine ext_set (by first |(simp;done) |(simp;omega)) _ ?_) |(refine ext_trans ?_ (by assumption))))
   ·have d1:¬ (m:Int)<1:=by omega
    by_cases h4:4<m
    ·rw[HO,if_pos (.inr h4)]
     have d4:(m:Int) > 4:=by omega
     clear HO hover h1 h4
     go_enter Tryz.func47,Tryz.ntmps47
     go_wp2_with fail
     rw[← HY.out]
     refine (C0.out _).mono ?_
     rintro e w1 ⟨rfl,rfl⟩
     go_wp2_with fail
     rw[← HX.out]
     refine (CA _).mono ?_
     rintro e w2 ⟨rfl,hb2⟩
     obtain⟨lt,z0,z1,z2,z3,fz⟩:=(TK.new w 0 0 0 ⟨#[]⟩ 55).on hb2
     go_wp2_with fail
     refine bodyPost_ret (v:=.tuple #[.agg #[.int .i64 0,.int .i64 0,.int .i64 0,.string ⟨#[]⟩],.int .i64 0,.int .i64 5]) (by simp[results,Tryz.results47,go_sem, *]) rfl ⟨rfl,?_⟩
     (repeat (first | exact ext_refl _ | assumption |(refine ext_alloc ?_ _) |(refine ext_drewN ?_ _) | refine ext_drew ?_ |(refine ext_set (by first |(simp;done) |(simp;omega)) _ ?_) |(refine ext_trans ?_ (by assumption))))
    ·rw[HO,if_neg (by omega)]
     have d4:¬ (m:Int) > 4:=by omega
     clear HO hover h1 h4
     go_enter Tryz.func47,Tryz.ntmps47
     go_wp2_with fail
     rw[← HY.out]
     refine (C0.out _).mono ?_
     rintro e w1 ⟨rfl,rfl⟩
     go_wp2_with fail
     rw[← HX.out]
     refine (CA _).mono ?_
     rintro e w2 ⟨rfl,hb2⟩
     obtain⟨lt,z0,z1,z2,z3,fz⟩:=(TK.new w 0 0 0 ⟨#[]⟩ 55).on hb2
     go_wp2_with fail
     refine bodyPost_ret (v:=.tuple #[.agg #[.int .i64 5,.int .i64 (m:Int),.int .i64 0,.string ⟨#[]⟩],.int .i64 (1+(k:Int)),.int .i64 0]) (by simp[results,Tryz.results47,go_sem, *]) rfl ⟨LRes.tok_of (by omega),?_⟩
     (repeat (first | exact ext_refl _ | assumption |(refine ext_alloc ?_ _) |(refine ext_drewN ?_ _) | refine ext_drew ?_ |(refine ext_set (by first |(simp;done) |(simp;omega)) _ ?_) |(refine ext_trans ?_ (by assumption))))
open Go.RowKit
theorem Tryz.infoU8:(Tryz.prog.info? 5).map (fun i=>(i.zero,i.size,i.bytes))=some (some (.int .u8 0),1,1):=by kernel_rfl
def OwnB (w:World) (base:Nat) (v:Value) (l:List Int):Prop:=w.ownsRow base 5 1 v l.length (l.map (Value.int .u8))
theorem OwnB.nil (w:World) (base:Nat):OwnB w base (.slice none 0 0) []:=World.ownsRow_nil _ _ _ _
theorem OwnB.later {w w':World} {base:Nat} {v:Value} {l:List Int} (h:OwnB w base v l) (hb:Below w.heap.size w w'):OwnB w' base v l:=by
 obtain⟨h1,h2⟩:=h
 refine⟨h1,?_⟩
 rcases h2 with h2 |⟨g,cap,cur,hv,hg,hh,r⟩
 ·exact .inl h2
 ·have hlt:g<w.heap.size:=by
   rcases Nat.lt_or_ge g w.heap.size with h | h
   ·exact h
   ·rw[Array.getElem?_eq_none h] at hh;cases hh
  exact .inr ⟨g,cap,cur,hv,hg,by rw[hb.block g hlt];exact hh,r⟩
theorem OwnB.slice {w:World} {base:Nat} {v:Value} {l:List Int} (h:OwnB w base v l):∃ p n c,v=.slice p n c:=by
 rcases h.2 with ⟨rfl,_⟩ |⟨g,cap,cur,rfl,_⟩
 ·exact⟨_,_,_,rfl⟩
 ·exact⟨_,_,_,rfl⟩
theorem wp_append_byte2 {w:World} {ops:Array Oper} {rest:List Oper} {o:Oper} {a:Act} {Q:Exit→Act→World→Prop} (hgd:o.guard=none) (s x:Operand)
  (ho:o.op=.call { callee:=.builtin .append,args:=#[s,x],argTypes:=#[108,108] }) (base:Nat) (v:Value) (l:List Int) (hs:a.eval s=v) (hown:OwnB w base v l)
  (y:Int) (g c:Nat) (hx:a.eval x=.slice (some ⟨g,0,none⟩) 1 c) (hc:w.cell? ⟨g,0,none⟩=some (.int .u8 y)) (hlen:l.length<1099511627776) (hbase:base≤w.heap.size)
  (h:∀ v' w',OwnB w' base v' (l++[y])→w.grownBy w' v.ownBlock→Below base w w'→wpList Tryz.prog ops Q rest (a.put o.dst v') w'):wpList Tryz.prog ops Q (o :: rest) a w:=by
 obtain⟨i0,hi,hz0,hz1,hz2⟩:=info_parts Tryz.infoU8
 refine wpList_append_own w hgd s x 108 ho base 5 i0 (.int .u8 0) 1 1 Tryz.underlying108 hi hz0 hz1 hz2 rfl (by decide) v l.length _ hs hown ⟨g,0,none⟩ 1 c [.int .u8 y] hx rfl ?_ ?_ ?_ ?_ hbase ?_
 ·intro j u hj
  match j,hj with
  | 0,hj=>simp at hj;subst hj;simpa [Addr.add] using hc
 ·intro u hu
  simp at hu
  subst hu
  rfl
 ·unfold maxLen;omega
 ·omega
 ·intro v' w' h1 h2 _
  refine h v' w' ?_ h2 ((Below.refl _ _).grown h2 hbase fun k hk=>(hown.lt _ hk).1)
  unfold OwnB
  rw[List.length_append,List.map_append]
  exact h1
open Go.RowKit
set_option maxRecDepth 100000
abbrev toJ (l:Bs):List Int:=l.map fun b=>(b.toNat:Int)
theorem toJ_app (a b:Bs):toJ (a++b)=toJ a++toJ b:=List.map_append
theorem toJ_push (l:Bs):∀ acc:ByteArray,(toJ l).foldl (fun (r:ByteArray) (n:Int)=>r.push (UInt8.ofNat n.toNat)) acc=⟨acc.data++l.toArray⟩:=by
 induction l with
 | nil=>intro acc;simp[toJ]
 | cons b l ih =>
  intro acc
  have:=ih (acc.push b)
  unfold toJ at this ⊢
  simp only[List.map_cons,List.foldl_cons,Int.toNat_natCast,UInt8.ofNat_toNat]
  rw[this]
  simp[ByteArray.push]
theorem conv_own {w:World} {base:Nat} {v:Value} {l:Bs} (h:OwnB w base v (toJ l)):(convert 108 9 v).run Tryz.prog w=.ok (.string (bsB l)) w:=by
 have h':=h
 obtain⟨h1,h2⟩:=h'
 rcases h2 with ⟨rfl,h0⟩ |⟨g,cap,cur,rfl,hb,hg,hn,hm,hc,ht⟩
 ·have:l=[]:=by rw[List.length_map] at h0;exact List.eq_nil_of_length_eq_zero h0
  subst this
  rw[run_convert_bytes_string w 108 9 5 none 0 0 Tryz.underlying108 Tryz.underlying5 Tryz.underlying9]
  rfl
 ·rw[run_convert_bytes_string w 108 9 5 _ _ _ Tryz.underlying108 Tryz.underlying5 Tryz.underlying9]
  have hl:(loadCells ⟨g,0,none⟩ (toJ l).length).run Tryz.prog w=.ok ((toJ l).map (Value.int .u8)).toArray w:=by
   have:=run_loadCells_list (P:=Tryz.prog) w ⟨g,0,none⟩ ((toJ l).map (Value.int .u8)) (fun j u hu=>World.ownsRow.cells h (g:=g) rfl j u hu)
   rwa [List.length_map] at this
  rw[run_bytesToString w _ _ cap (toJ l) hl,toJ_push]
  simp
theorem OwnB.len {w:World} {base:Nat} {p:Option Addr} {n c:Nat} {l:List Int} (h:OwnB w base (.slice p n c) l):n=l.length:=by
 rcases h.2 with ⟨h,h0⟩ |⟨g,cap,cur,hv,_⟩
 ·cases h;exact h0.symm
 ·cases hv;rfl
end Go.Proofs.YtapbglhjamddbaaGreatDoor
