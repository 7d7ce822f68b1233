package fold

// allKinds stands for every kind where rows of one kind are asked for.
const allKinds uint8 = 0

// Table returns the table of abbreviations. It is made anew by each call, so that a caller may change it.
func Table() []Row {
	return []Row{
		{KindPre, "NORTH", "N"},
		{KindPre, "SOUTH", "S"},
		{KindPre, "EAST", "E"},
		{KindPre, "WEST", "W"},
		{KindPre, "NORTHEAST", "NE"},
		{KindPre, "NORTHWEST", "NW"},
		{KindPre, "SOUTHEAST", "SE"},
		{KindPre, "SOUTHWEST", "SW"},
		{KindSuffix, "STREET", "ST"},
		{KindSuffix, "AVENUE", "AVE"},
		{KindSuffix, "AVENUE", "AV"},
		{KindSuffix, "ROAD", "RD"},
		{KindSuffix, "DRIVE", "DR"},
		{KindSuffix, "LANE", "LN"},
		{KindSuffix, "COURT", "CT"},
		{KindSuffix, "PLACE", "PL"},
		{KindSuffix, "SQUARE", "SQ"},
		{KindSuffix, "BOULEVARD", "BLVD"},
		{KindSuffix, "TERRACE", "TER"},
		{KindSuffix, "HIGHWAY", "HWY"},
		{KindSuffix, "CRESCENT", "CRES"},
		{KindSuffix, "WAY", "WAY"},
		{KindSuffix, "STRASSE", "STR"},
		{KindSuffix, "PLATZ", "PL"},
		{KindSuffix, "WEG", "WEG"},
		{KindSuffix, "ALLEE", "AL"},
		{KindUnit, "APARTMENT", "APT"},
		{KindUnit, "SUITE", "STE"},
		{KindUnit, "FLOOR", "FL"},
		{KindUnit, "ROOM", "RM"},
		{KindUnit, "FLAT", "FL"},
		{KindUnit, "UNIT", "UNIT"},
		{KindBox, "BOX", "BOX"},
		{KindBox, "POSTBOX", "PB"},
		{KindBox, "POSTFACH", "PF"},
		{KindName, "SAINT", "ST"},
		{KindName, "SAINTE", "STE"},
		{KindName, "MOUNT", "MT"},
		{KindName, "FORT", "FT"},
		{KindName, "DOCTOR", "DR"},
	}
}

// rowsOf returns the rows of a kind that a word is of.
func rowsOf(kind uint8, word string) []Row {
	return selected(Table(), func(row Row) bool { return isKind(row, kind) && (row.Long == word || row.Short == word) })
}

// isKind reports whether a row is of a kind.
func isKind(row Row, kind uint8) bool {
	return kind == allKinds || row.Kind == kind
}

// selected returns those elements of a list that are wanted, in order.
func selected[T any](list []T, wanted func(T) bool) []T {
	var found []T
	for _, element := range list {
		if wanted(element) {
			found = append(found, element)
		}
	}
	return found
}

// first returns the first element of a list, and a zero value if it has none.
func first[T any](list []T) T {
	if len(list) == 0 {
		var zero T
		return zero
	}
	return list[0]
}
