package fold

// blank is the only byte that parts words.
const blank = " "

// converting returns a function that tells what the byte of a text at a position becomes, and how many bytes become that: two if they are in the table of letters, otherwise one.
func converting(s string) func(at int) (string, int) {
	return func(at int) (string, int) {
		switch b := s[at]; {
		case b >= 'A' && b <= 'Z', b >= '0' && b <= '9', b == '-', b == '/':
			return s[at : at+1], 1
		case b >= 'a' && b <= 'z':
			return string(b - 'a' + 'A'), 1
		}
		if at+1 < len(s) {
			if letters := lettersOf(s[at], s[at+1]); letters != "" {
				return letters, 2
			}
		}
		return blank, 1
	}
}

// lettersOf returns the letters of two bytes in the table of letters, and none if they are not in it.
func lettersOf(first, second byte) string {
	switch first {
	case 0xC3:
		return lettersOfC3(second)
	case 0xC5:
		return lettersOfC5(second)
	}
	return ""
}

// lettersOfC3 returns the letters of the second bytes behind C3.
func lettersOfC3(second byte) string {
	switch second {
	case 0x80, 0x81, 0x82, 0x83, 0x85, 0xA0, 0xA1, 0xA2, 0xA3, 0xA5:
		return "A"
	case 0x84, 0x86, 0xA4, 0xA6:
		return "AE"
	case 0x87, 0xA7:
		return "C"
	case 0x88, 0x89, 0x8A, 0x8B, 0xA8, 0xA9, 0xAA, 0xAB:
		return "E"
	case 0x8C, 0x8D, 0x8E, 0x8F, 0xAC, 0xAD, 0xAE, 0xAF:
		return "I"
	case 0x90, 0xB0:
		return "D"
	case 0x91, 0xB1:
		return "N"
	case 0x92, 0x93, 0x94, 0x95, 0x98, 0xB2, 0xB3, 0xB4, 0xB5, 0xB8:
		return "O"
	case 0x96, 0xB6:
		return "OE"
	case 0x99, 0x9A, 0x9B, 0xB9, 0xBA, 0xBB:
		return "U"
	case 0x9C, 0xBC:
		return "UE"
	case 0x9D, 0xBD, 0xBF:
		return "Y"
	case 0x9E, 0xBE:
		return "TH"
	case 0x9F:
		return "SS"
	}
	return ""
}

// lettersOfC5 returns the letters of the second bytes behind C5.
func lettersOfC5(second byte) string {
	switch second {
	case 0x92, 0x93:
		return "OE"
	case 0xA0, 0xA1:
		return "S"
	case 0xBD, 0xBE:
		return "Z"
	}
	return ""
}
