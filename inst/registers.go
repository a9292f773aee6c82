package inst

import "keysmith/api"

const registerCount = api.R15 + 1

var registerNames = [registerCount]string{
	"rax", "rcx", "rdx", "rbx", "rsp", "rbp", "rsi", "rdi",
	"r8", "r9", "r10", "r11", "r12", "r13", "r14", "r15",
}

func isRegister(r int) bool {
	return r >= 0 && r < registerCount
}

// registers is a set of them, a bit for each.
type registers uint16

func (s *registers) add(r int, is bool) {
	if is {
		*s |= 1 << r
	}
}

// list answers the registers of the set, rising.
func (s registers) list() []int {
	var l []int
	for r := range registerCount {
		if s>>r&1 == 1 {
			l = append(l, r)
		}
	}
	return l
}
